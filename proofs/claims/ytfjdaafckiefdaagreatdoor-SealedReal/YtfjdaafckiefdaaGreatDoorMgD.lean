/- The walk of Decode where the kind is none. -/
import Derived.Test.YtfjdaafckiefdaaGreatDoorMgR
namespace Go.Proofs.YtfjdaafckiefdaaGreatDoor.E9
open Go.RowKit C8
set_option maxHeartbeats 4000000 in
theorem dk0 (sv : Value) (l : List Nat) (w : World) (hs : Src w sv l) (hl : l.length ≤ 900000) (k a b : Int) (s1 s2 s3 : Sta) (H1 : Hid (rN 0 1099511627776 (l, false) = (k, s1))) (H2 : Hid (rN 1 16 s1 = (a, s2))) (H3 : Hid (rN 0 1099511627776 s2 = (b, s3))) (k1 : ¬ k = 1) (k2 : ¬ k = 2) (k3 : ¬ k = 3) (k4 : ¬ k = 4) (k5 : ¬ k = 5)  (en : Bool) (HEN : Hid ((!s3.2 && decide (s3.1 = [])) = en)) :
    Calls Tryz.prog 68 #[sv] w fun e w' => DecSays l w e w' := by
  have HD : Hid (decE false (l, false) = (⟨k, a, b, [], [], 0, 0, 0, []⟩, s3)) := by
    show _ = _
    rw [decE_hd H1.out H2.out H3.out]
    unfold tl
    rw [if_neg k1, if_neg k2, if_neg k3, if_neg k4, if_neg k5]
  have HRD : ∀ W, Hid (Below w.heap.size w W) → Calls Tryz.prog 46 #[sv] W fun e w' => ∃ p, e = .returned (.pointer (some ⟨p, 0, none⟩)) ∧ Hid (RdS w' p W.heap.size w'.heap.size (l, false)) ∧ Hid (W.heap.size ≤ p ∧ p < w'.heap.size) ∧ Hid (Below W.heap.size W w') := fun W hW => (read_any sv l W (hs.below hW.out) hl).mono (by
    rintro e w' ⟨p, rfl, h1, h2, h3, h4⟩
    exact ⟨p, rfl, h1, ⟨h2, h3⟩, h4⟩)
  obtain ⟨sq, sc, rfl, -⟩ := hs.slice
  generalize l.length = ln at *
  clear hs hl
  have HB0 : Hid (∀ o, Below w.heap.size w (w.alloc o)) := fun o => bel_alloc (Nat.le_refl _) o
  obtain ⟨S, HSS⟩ : ∃ S, Hid (DecSays l w = S) := ⟨_, rfl⟩
  rw [HSS.out]
  have zk1 : (k == 1) = false := by simp [k1]
  have zk2 : (k == 2) = false := by simp [k2]
  have zk3 : (k == 3) = false := by simp [k3]
  have zk4 : (k == 4) = false := by simp [k4]
  have zk5 : (k == 5) = false := by simp [k5]
  go_enter Tryz.func68, Tryz.ntmps68
  go_wp2_with (first
    | (go_at_call 46; refine (HRD _ (HB0.out _)).mono ?_; rintro e w1 ⟨p, rfl, R1, P1, B1⟩; clear HRD))
  have D1 : Hid (D4 w (w1.alloc (.cells #[.pointer (some ⟨p, 0, none⟩)] 81)) p w1.heap.size (l, false)) := D4.start B1.out R1.out P1.out.1 P1.out.2
  clear R1 P1 B1 HB0
  generalize w1.alloc (.cells #[.pointer (some ⟨p, 0, none⟩)] 81) = W1 at *
  generalize w1.heap.size = B at *
  go_wp2_with (first
    | (go_at_call 111; refine (c28 (by assumption) (by assumption)).mono ?_; rintro e w2 ⟨rfl, D2, O2⟩; have c4 : ∀ o, (w2.alloc o).cell? ⟨B, 0, none⟩ = some (.pointer (some ⟨p, 0, none⟩)) := fun o => (D2.out.up (bel_alloc D2.out.lt o)).c4)
    | (go_at_call 112; refine (c30 (by assumption) (by assumption)).mono ?_; rintro e w3 ⟨rfl, D3, O3⟩))
  have D6 : Hid (D4 w (w2.alloc (.cells #[.int .i64 k, .int .i64 a, .int .i64 b, .slice none 0 0, .slice none 0 0, .int .i64 0, .int .i64 0, .int .i64 0, .slice none 0 0] 49)) p B s3) := D2.out.up (bel_alloc D2.out.lt _)
  have E6 : Hid ((w2.alloc (.cells #[.int .i64 k, .int .i64 a, .int .i64 b, .slice none 0 0, .slice none 0 0, .int .i64 0, .int .i64 0, .int .i64 0, .slice none 0 0] 49)).heap[w2.heap.size]? = some (.cells #[.int .i64 k, .int .i64 a, .int .i64 b, .slice none 0 0, .slice none 0 0, .int .i64 0, .int .i64 0, .int .i64 0, .slice none 0 0] 49 (0, 0))) := heap_alloc_new w2 _
  clear c4 D1 D2 D3 O2 O3
  generalize w2.alloc (.cells #[.int .i64 k, .int .i64 a, .int .i64 b, .slice none 0 0, .slice none 0 0, .int .i64 0, .int .i64 0, .int .i64 0, .slice none 0 0] 49) = w6 at *
  generalize w2.heap.size = b8 at *
  have EN6 : Hid (EnNew (w.heap.size + 1) w6 (.agg #[.int .i64 k, .int .i64 a, .int .i64 b, .slice none 0 0, .slice none 0 0, .int .i64 0, .int .i64 0, .int .i64 0, .slice none 0 0]) ⟨k, a, b, [], [], 0, 0, 0, []⟩) := fun w2 _ => ⟨none, 0, none, 0, none, 0, rfl, Src.nil _, Src.nil _, WrRow.nil _ _, (by simp), (by simp), by simp⟩
  refine (c33 D6 HEN).mono ?_
  rintro e _ ⟨rfl, rfl⟩
  have x0 : w6.cell? ⟨w.heap.size, 0, none⟩ = some (.int .i64 0) := by rw [cell_of_row _ _ _ _ _ _ D6.out.at2]; rfl
  have y0 : w6.frozen? ⟨w.heap.size, 0, none⟩ = false := frozen_of_row _ _ _ _ _ D6.out.at2
  have x1 : w6.cell? ⟨w.heap.size, 1, none⟩ = some (.int .i64 0) := by rw [cell_of_row _ _ _ _ _ _ D6.out.at2]; rfl
  have y1 : w6.frozen? ⟨w.heap.size, 1, none⟩ = false := frozen_of_row _ _ _ _ _ D6.out.at2
  have x2 : w6.cell? ⟨w.heap.size, 2, none⟩ = some (.int .i64 0) := by rw [cell_of_row _ _ _ _ _ _ D6.out.at2]; rfl
  have y2 : w6.frozen? ⟨w.heap.size, 2, none⟩ = false := frozen_of_row _ _ _ _ _ D6.out.at2
  have x3 : w6.cell? ⟨w.heap.size, 3, none⟩ = some (.slice none 0 0) := by rw [cell_of_row _ _ _ _ _ _ D6.out.at2]; rfl
  have y3 : w6.frozen? ⟨w.heap.size, 3, none⟩ = false := frozen_of_row _ _ _ _ _ D6.out.at2
  have x4 : w6.cell? ⟨w.heap.size, 4, none⟩ = some (.slice none 0 0) := by rw [cell_of_row _ _ _ _ _ _ D6.out.at2]; rfl
  have y4 : w6.frozen? ⟨w.heap.size, 4, none⟩ = false := frozen_of_row _ _ _ _ _ D6.out.at2
  have x5 : w6.cell? ⟨w.heap.size, 5, none⟩ = some (.int .i64 0) := by rw [cell_of_row _ _ _ _ _ _ D6.out.at2]; rfl
  have y5 : w6.frozen? ⟨w.heap.size, 5, none⟩ = false := frozen_of_row _ _ _ _ _ D6.out.at2
  have x6 : w6.cell? ⟨w.heap.size, 6, none⟩ = some (.int .i64 0) := by rw [cell_of_row _ _ _ _ _ _ D6.out.at2]; rfl
  have y6 : w6.frozen? ⟨w.heap.size, 6, none⟩ = false := frozen_of_row _ _ _ _ _ D6.out.at2
  have x7 : w6.cell? ⟨w.heap.size, 7, none⟩ = some (.int .i64 0) := by rw [cell_of_row _ _ _ _ _ _ D6.out.at2]; rfl
  have y7 : w6.frozen? ⟨w.heap.size, 7, none⟩ = false := frozen_of_row _ _ _ _ _ D6.out.at2
  have x8 : w6.cell? ⟨w.heap.size, 8, none⟩ = some (.slice none 0 0) := by rw [cell_of_row _ _ _ _ _ _ D6.out.at2]; rfl
  have y8 : w6.frozen? ⟨w.heap.size, 8, none⟩ = false := frozen_of_row _ _ _ _ _ D6.out.at2
  cases en with
  | false =>
    go_wp2_with fail
    refine bodyPost_ret (results_row2 rfl _ _ w.heap.size 49 _ (0, 0) _ rfl (row9 D6.out.at2 _ _ _ _ _ _ _ _ _) Tryz.underlying49 rfl (by kernel_rfl)) rfl ?_
    rw [← HSS.out]
    exact DecSays.no (bel9 D6.out.bel (Nat.le_refl _) _ _ _ _ _ _ _ _ _) (dec_none1 HD.out HEN.out)
  | true =>
    have d0 : w6.cell? ⟨b8, 0, none⟩ = some (.int .i64 k) := by rw [cell_of_row _ _ _ _ _ _ E6.out]; rfl
    have d1 : w6.cell? ⟨b8, 1, none⟩ = some (.int .i64 a) := by rw [cell_of_row _ _ _ _ _ _ E6.out]; rfl
    have d2 : w6.cell? ⟨b8, 2, none⟩ = some (.int .i64 b) := by rw [cell_of_row _ _ _ _ _ _ E6.out]; rfl
    have d3 : w6.cell? ⟨b8, 3, none⟩ = some (.slice none 0 0) := by rw [cell_of_row _ _ _ _ _ _ E6.out]; rfl
    have d4 : w6.cell? ⟨b8, 4, none⟩ = some (.slice none 0 0) := by rw [cell_of_row _ _ _ _ _ _ E6.out]; rfl
    have d5 : w6.cell? ⟨b8, 5, none⟩ = some (.int .i64 0) := by rw [cell_of_row _ _ _ _ _ _ E6.out]; rfl
    have d6 : w6.cell? ⟨b8, 6, none⟩ = some (.int .i64 0) := by rw [cell_of_row _ _ _ _ _ _ E6.out]; rfl
    have d7 : w6.cell? ⟨b8, 7, none⟩ = some (.int .i64 0) := by rw [cell_of_row _ _ _ _ _ _ E6.out]; rfl
    have d8 : w6.cell? ⟨b8, 8, none⟩ = some (.slice none 0 0) := by rw [cell_of_row _ _ _ _ _ _ E6.out]; rfl
    have HRT := Right_any ⟨k, a, b, [], [], 0, 0, 0, []⟩ _ w6 EN6.out.is
    cases hr : right ⟨k, a, b, [], [], 0, 0, 0, []⟩ with
    | false =>
      rw [hr] at HRT
      have HR : Hid (right ⟨k, a, b, [], [], 0, 0, 0, []⟩ = false) := hr
      clear hr
      have HR7 : ∀ W, W = w6 → Calls Tryz.prog 37 #[.agg #[.int .i64 k, .int .i64 a, .int .i64 b, .slice none 0 0, .slice none 0 0, .int .i64 0, .int .i64 0, .int .i64 0, .slice none 0 0]] W fun e w' => e = .returned (.bool false) ∧ Hid (D4 w w' p B s3) ∧ Hid (Below w6.heap.size w6 w') ∧ w'.cell? ⟨w.heap.size, 0, none⟩ = some (.int .i64 0) ∧ w'.frozen? ⟨w.heap.size, 0, none⟩ = false ∧ w'.cell? ⟨w.heap.size, 1, none⟩ = some (.int .i64 0) ∧ w'.frozen? ⟨w.heap.size, 1, none⟩ = false ∧ w'.cell? ⟨w.heap.size, 2, none⟩ = some (.int .i64 0) ∧ w'.frozen? ⟨w.heap.size, 2, none⟩ = false ∧ w'.cell? ⟨w.heap.size, 3, none⟩ = some (.slice none 0 0) ∧ w'.frozen? ⟨w.heap.size, 3, none⟩ = false ∧ w'.cell? ⟨w.heap.size, 4, none⟩ = some (.slice none 0 0) ∧ w'.frozen? ⟨w.heap.size, 4, none⟩ = false ∧ w'.cell? ⟨w.heap.size, 5, none⟩ = some (.int .i64 0) ∧ w'.frozen? ⟨w.heap.size, 5, none⟩ = false ∧ w'.cell? ⟨w.heap.size, 6, none⟩ = some (.int .i64 0) ∧ w'.frozen? ⟨w.heap.size, 6, none⟩ = false ∧ w'.cell? ⟨w.heap.size, 7, none⟩ = some (.int .i64 0) ∧ w'.frozen? ⟨w.heap.size, 7, none⟩ = false ∧ w'.cell? ⟨w.heap.size, 8, none⟩ = some (.slice none 0 0) ∧ w'.frozen? ⟨w.heap.size, 8, none⟩ = false := by
        rintro W rfl
        refine HRT.mono ?_
        rintro e w' ⟨rfl, h7⟩
        have D7 : D4 w w' p B s3 := D6.out.up (bel_le h7 D6.out.lt)
        have E7 := (h7.block b8 (Array.getElem?_eq_some_iff.1 E6.out).1).trans E6.out
        refine ⟨rfl, D7, h7, ?_, frozen_of_row _ _ _ _ _ D7.at2, ?_, frozen_of_row _ _ _ _ _ D7.at2, ?_, frozen_of_row _ _ _ _ _ D7.at2, ?_, frozen_of_row _ _ _ _ _ D7.at2, ?_, frozen_of_row _ _ _ _ _ D7.at2, ?_, frozen_of_row _ _ _ _ _ D7.at2, ?_, frozen_of_row _ _ _ _ _ D7.at2, ?_, frozen_of_row _ _ _ _ _ D7.at2, ?_, frozen_of_row _ _ _ _ _ D7.at2⟩
        · rw [cell_of_row _ _ _ _ _ _ D7.at2]; rfl
        · rw [cell_of_row _ _ _ _ _ _ D7.at2]; rfl
        · rw [cell_of_row _ _ _ _ _ _ D7.at2]; rfl
        · rw [cell_of_row _ _ _ _ _ _ D7.at2]; rfl
        · rw [cell_of_row _ _ _ _ _ _ D7.at2]; rfl
        · rw [cell_of_row _ _ _ _ _ _ D7.at2]; rfl
        · rw [cell_of_row _ _ _ _ _ _ D7.at2]; rfl
        · rw [cell_of_row _ _ _ _ _ _ D7.at2]; rfl
        · rw [cell_of_row _ _ _ _ _ _ D7.at2]; rfl
      clear HRT
      go_wp2_with (first | (go_at_call 37; refine (HR7 _ rfl).mono ?_; rintro e w7 ⟨rfl, D7, B7, u0, v0, u1, v1, u2, v2, u3, v3, u4, v4, u5, v5, u6, v6, u7, v7, u8, v8⟩))
      refine bodyPost_ret (results_row2 rfl _ _ w.heap.size 49 _ (0, 0) _ rfl (row9 D7.out.at2 _ _ _ _ _ _ _ _ _) Tryz.underlying49 rfl (by kernel_rfl)) rfl ?_
      rw [← HSS.out]
      exact DecSays.no (bel9 D7.out.bel (Nat.le_refl _) _ _ _ _ _ _ _ _ _) (dec_none2 HD.out HR.out)
    | true =>
      rw [hr] at HRT
      have HR : Hid (right ⟨k, a, b, [], [], 0, 0, 0, []⟩ = true) := hr
      clear hr
      have HR7 : ∀ W, W = w6 → Calls Tryz.prog 37 #[.agg #[.int .i64 k, .int .i64 a, .int .i64 b, .slice none 0 0, .slice none 0 0, .int .i64 0, .int .i64 0, .int .i64 0, .slice none 0 0]] W fun e w' => e = .returned (.bool true) ∧ Hid (D4 w w' p B s3) ∧ Hid (Below w6.heap.size w6 w') ∧ w'.cell? ⟨w.heap.size, 0, none⟩ = some (.int .i64 0) ∧ w'.frozen? ⟨w.heap.size, 0, none⟩ = false ∧ w'.cell? ⟨w.heap.size, 1, none⟩ = some (.int .i64 0) ∧ w'.frozen? ⟨w.heap.size, 1, none⟩ = false ∧ w'.cell? ⟨w.heap.size, 2, none⟩ = some (.int .i64 0) ∧ w'.frozen? ⟨w.heap.size, 2, none⟩ = false ∧ w'.cell? ⟨w.heap.size, 3, none⟩ = some (.slice none 0 0) ∧ w'.frozen? ⟨w.heap.size, 3, none⟩ = false ∧ w'.cell? ⟨w.heap.size, 4, none⟩ = some (.slice none 0 0) ∧ w'.frozen? ⟨w.heap.size, 4, none⟩ = false ∧ w'.cell? ⟨w.heap.size, 5, none⟩ = some (.int .i64 0) ∧ w'.frozen? ⟨w.heap.size, 5, none⟩ = false ∧ w'.cell? ⟨w.heap.size, 6, none⟩ = some (.int .i64 0) ∧ w'.frozen? ⟨w.heap.size, 6, none⟩ = false ∧ w'.cell? ⟨w.heap.size, 7, none⟩ = some (.int .i64 0) ∧ w'.frozen? ⟨w.heap.size, 7, none⟩ = false ∧ w'.cell? ⟨w.heap.size, 8, none⟩ = some (.slice none 0 0) ∧ w'.frozen? ⟨w.heap.size, 8, none⟩ = false ∧ w'.cell? ⟨b8, 0, none⟩ = some (.int .i64 k) ∧ w'.cell? ⟨b8, 1, none⟩ = some (.int .i64 a) ∧ w'.cell? ⟨b8, 2, none⟩ = some (.int .i64 b) ∧ w'.cell? ⟨b8, 3, none⟩ = some (.slice none 0 0) ∧ w'.cell? ⟨b8, 4, none⟩ = some (.slice none 0 0) ∧ w'.cell? ⟨b8, 5, none⟩ = some (.int .i64 0) ∧ w'.cell? ⟨b8, 6, none⟩ = some (.int .i64 0) ∧ w'.cell? ⟨b8, 7, none⟩ = some (.int .i64 0) ∧ w'.cell? ⟨b8, 8, none⟩ = some (.slice none 0 0) := by
        rintro W rfl
        refine HRT.mono ?_
        rintro e w' ⟨rfl, h7⟩
        have D7 : D4 w w' p B s3 := D6.out.up (bel_le h7 D6.out.lt)
        have E7 := (h7.block b8 (Array.getElem?_eq_some_iff.1 E6.out).1).trans E6.out
        refine ⟨rfl, D7, h7, ?_, frozen_of_row _ _ _ _ _ D7.at2, ?_, frozen_of_row _ _ _ _ _ D7.at2, ?_, frozen_of_row _ _ _ _ _ D7.at2, ?_, frozen_of_row _ _ _ _ _ D7.at2, ?_, frozen_of_row _ _ _ _ _ D7.at2, ?_, frozen_of_row _ _ _ _ _ D7.at2, ?_, frozen_of_row _ _ _ _ _ D7.at2, ?_, frozen_of_row _ _ _ _ _ D7.at2, ?_, frozen_of_row _ _ _ _ _ D7.at2, ?_, ?_, ?_, ?_, ?_, ?_, ?_, ?_, ?_⟩
        · rw [cell_of_row _ _ _ _ _ _ D7.at2]; rfl
        · rw [cell_of_row _ _ _ _ _ _ D7.at2]; rfl
        · rw [cell_of_row _ _ _ _ _ _ D7.at2]; rfl
        · rw [cell_of_row _ _ _ _ _ _ D7.at2]; rfl
        · rw [cell_of_row _ _ _ _ _ _ D7.at2]; rfl
        · rw [cell_of_row _ _ _ _ _ _ D7.at2]; rfl
        · rw [cell_of_row _ _ _ _ _ _ D7.at2]; rfl
        · rw [cell_of_row _ _ _ _ _ _ D7.at2]; rfl
        · rw [cell_of_row _ _ _ _ _ _ D7.at2]; rfl
        · rw [cell_of_row _ _ _ _ _ _ E7]; rfl
        · rw [cell_of_row _ _ _ _ _ _ E7]; rfl
        · rw [cell_of_row _ _ _ _ _ _ E7]; rfl
        · rw [cell_of_row _ _ _ _ _ _ E7]; rfl
        · rw [cell_of_row _ _ _ _ _ _ E7]; rfl
        · rw [cell_of_row _ _ _ _ _ _ E7]; rfl
        · rw [cell_of_row _ _ _ _ _ _ E7]; rfl
        · rw [cell_of_row _ _ _ _ _ _ E7]; rfl
        · rw [cell_of_row _ _ _ _ _ _ E7]; rfl
      clear HRT
      go_wp2_with (first | (go_at_call 37; refine (HR7 _ rfl).mono ?_; rintro e w7 ⟨rfl, D7, B7, u0, v0, u1, v1, u2, v2, u3, v3, u4, v4, u5, v5, u6, v6, u7, v7, u8, v8, z0, z1, z2, z3, z4, z5, z6, z7, z8⟩))
      refine bodyPost_ret (results_row2 rfl _ _ w.heap.size 49 _ (0, 0) _ rfl (row9 D7.out.at2 _ _ _ _ _ _ _ _ _) Tryz.underlying49 rfl (by kernel_rfl)) rfl ?_
      rw [← HSS.out]
      exact DecSays.yes (bel9 D7.out.bel (Nat.le_refl _) _ _ _ _ _ _ _ _ _) (dec_some HD.out HEN.out HR.out) ((EN6.out.agree (Agree.below B7.out)).last (only9 _ _ _ _ _ _ _ _ _ _ _))
end Go.Proofs.YtfjdaafckiefdaaGreatDoor.E9
/- The walk of Decode where the kind is 1. -/
namespace Go.Proofs.YtfjdaafckiefdaaGreatDoor.E9
open Go.RowKit C8
set_option maxHeartbeats 4000000 in
theorem dk1 (sv : Value) (l : List Nat) (w : World) (hs : Src w sv l) (hl : l.length ≤ 900000) (a b : Int) (s1 s2 s3 : Sta) (H1 : Hid (rN 0 1099511627776 (l, false) = (1, s1))) (H2 : Hid (rN 1 16 s1 = (a, s2))) (H3 : Hid (rN 0 1099511627776 s2 = (b, s3)))  (t4 : List Nat) (s4 : Sta) (H4 : Hid (rT 0 4096 s3 = (t4, s4))) (t5 : List Nat) (s5 : Sta) (H5 : Hid (rT 0 4096 s4 = (t5, s5))) (en : Bool) (HEN : Hid ((!s5.2 && decide (s5.1 = [])) = en)) :
    Calls Tryz.prog 68 #[sv] w fun e w' => DecSays l w e w' := by
  have HD : Hid (decE false (l, false) = (⟨1, a, b, t4, t5, 0, 0, 0, []⟩, s5)) := by
    show _ = _
    rw [decE_hd H1.out H2.out H3.out]
    unfold tl
    rw [if_pos rfl]
    simp [lo1, hiT, hiV, H4.out, H5.out]
  have HRD : ∀ W, Hid (Below w.heap.size w W) → Calls Tryz.prog 46 #[sv] W fun e w' => ∃ p, e = .returned (.pointer (some ⟨p, 0, none⟩)) ∧ Hid (RdS w' p W.heap.size w'.heap.size (l, false)) ∧ Hid (W.heap.size ≤ p ∧ p < w'.heap.size) ∧ Hid (Below W.heap.size W w') := fun W hW => (read_any sv l W (hs.below hW.out) hl).mono (by
    rintro e w' ⟨p, rfl, h1, h2, h3, h4⟩
    exact ⟨p, rfl, h1, ⟨h2, h3⟩, h4⟩)
  obtain ⟨sq, sc, rfl, -⟩ := hs.slice
  generalize l.length = ln at *
  clear hs hl
  have HB0 : Hid (∀ o, Below w.heap.size w (w.alloc o)) := fun o => bel_alloc (Nat.le_refl _) o
  obtain ⟨S, HSS⟩ : ∃ S, Hid (DecSays l w = S) := ⟨_, rfl⟩
  rw [HSS.out]
  go_enter Tryz.func68, Tryz.ntmps68
  go_wp2_with (first
    | (go_at_call 46; refine (HRD _ (HB0.out _)).mono ?_; rintro e w1 ⟨p, rfl, R1, P1, B1⟩; clear HRD))
  have D1 : Hid (D4 w (w1.alloc (.cells #[.pointer (some ⟨p, 0, none⟩)] 81)) p w1.heap.size (l, false)) := D4.start B1.out R1.out P1.out.1 P1.out.2
  clear R1 P1 B1 HB0
  generalize w1.alloc (.cells #[.pointer (some ⟨p, 0, none⟩)] 81) = W1 at *
  generalize w1.heap.size = B at *
  go_wp2_with (first
    | (go_at_call 111; refine (c28 (by assumption) (by assumption)).mono ?_; rintro e w2 ⟨rfl, D2, O2⟩)
    | (go_at_call 112; refine (c30 (by assumption) (by assumption)).mono ?_; rintro e w3 ⟨rfl, D3, O3⟩))
  have D8 : Hid (D4 w (w2.alloc (.cells #[.int .i64 1, .int .i64 a, .int .i64 b, .slice none 0 0, .slice none 0 0, .int .i64 0, .int .i64 0, .int .i64 0, .slice none 0 0] 49)) p B s3) := D2.out.up (bel_alloc D2.out.lt _)
  have E8 : Hid ((w2.alloc (.cells #[.int .i64 1, .int .i64 a, .int .i64 b, .slice none 0 0, .slice none 0 0, .int .i64 0, .int .i64 0, .int .i64 0, .slice none 0 0] 49)).heap[w2.heap.size]? = some (.cells #[.int .i64 1, .int .i64 a, .int .i64 b, .slice none 0 0, .slice none 0 0, .int .i64 0, .int .i64 0, .int .i64 0, .slice none 0 0] 49 (0, 0))) := heap_alloc_new w2 _
  have L8 : Hid (B + 1 ≤ w2.heap.size ∧ p < w2.heap.size) := ⟨D2.out.lt, Nat.lt_trans D2.out.hi D2.out.lt⟩
  clear D1 D2 D3 O2 O3
  generalize w2.alloc (.cells #[.int .i64 1, .int .i64 a, .int .i64 b, .slice none 0 0, .slice none 0 0, .int .i64 0, .int .i64 0, .int .i64 0, .slice none 0 0] 49) = W8 at *
  generalize w2.heap.size = b8 at *
  refine (c31 D8 H4).mono ?_
  rintro e w25 ⟨tp25, tc25, rfl, T25, D25, O25⟩
  have E25 : Hid (w25.heap[b8]? = some (.cells #[.int .i64 1, .int .i64 a, .int .i64 b, .slice none 0 0, .slice none 0 0, .int .i64 0, .int .i64 0, .int .i64 0, .slice none 0 0] 49 (0, 0))) := (O25.out.block b8 (Array.getElem?_eq_some_iff.1 E8.out).1 (by have := L8.out; simp; omega)).trans E8.out
  go_wp2_with fail
  refine (c31 D25 H5).mono ?_
  rintro e w26 ⟨tp26, tc26, rfl, T26, D26, O26⟩
  have E26 : Hid (w26.heap[b8]? = some (.cells #[.int .i64 1, .int .i64 a, .int .i64 b, .slice none 0 0, .slice none 0 0, .int .i64 0, .int .i64 0, .int .i64 0, .slice none 0 0] 49 (0, 0))) := (O26.out.block b8 (Array.getElem?_eq_some_iff.1 E25.out).1 (by have := L8.out; simp; omega)).trans E25.out
  have T25_26 : Hid (Tx w26 p (w.heap.size + 1) B (.slice tp25 t4.length tc25) t4) := T25.out.only O26.out
  have d3 : w26.cell? ⟨b8, 3, none⟩ = some (.slice none 0 0) := by rw [cell_of_row _ _ _ _ _ _ E26.out]; rfl
  have f3 : w26.frozen? ⟨b8, 3, none⟩ = false := frozen_of_row _ _ _ _ _ E26.out
  have d4 : w26.cell? ⟨b8, 4, none⟩ = some (.slice none 0 0) := by rw [cell_of_row _ _ _ _ _ _ E26.out]; rfl
  have f4 : w26.frozen? ⟨b8, 4, none⟩ = false := frozen_of_row _ _ _ _ _ E26.out
  have c4 := D26.out.c4
  go_wp2_with fail
  have E9_3 : (w26.setCell ⟨b8, 3, none⟩ (.slice tp25 t4.length tc25)).heap[b8]? = some (.cells #[.int .i64 1, .int .i64 a, .int .i64 b, .slice tp25 t4.length tc25, .slice none 0 0, .int .i64 0, .int .i64 0, .int .i64 0, .slice none 0 0] 49 (0, 0)) := heap_setCell_same _ b8 3 _ 49 _ E26.out
  have E9_4 : ((w26.setCell ⟨b8, 3, none⟩ (.slice tp25 t4.length tc25)).setCell ⟨b8, 4, none⟩ (.slice tp26 t5.length tc26)).heap[b8]? = some (.cells #[.int .i64 1, .int .i64 a, .int .i64 b, .slice tp25 t4.length tc25, .slice tp26 t5.length tc26, .int .i64 0, .int .i64 0, .int .i64 0, .slice none 0 0] 49 (0, 0)) := heap_setCell_same _ b8 4 _ 49 _ E9_3
  have D6 : Hid (D4 w ((w26.setCell ⟨b8, 3, none⟩ (.slice tp25 t4.length tc25)).setCell ⟨b8, 4, none⟩ (.slice tp26 t5.length tc26)) p B s5) := D26.out.up (((Below.refl _ _).setCell (p := ⟨b8, 3, none⟩) L8.out.1 _).setCell (p := ⟨b8, 4, none⟩) L8.out.1 _)
  have E6 : Hid (((w26.setCell ⟨b8, 3, none⟩ (.slice tp25 t4.length tc25)).setCell ⟨b8, 4, none⟩ (.slice tp26 t5.length tc26)).heap[b8]? = some (.cells #[.int .i64 1, .int .i64 a, .int .i64 b, .slice tp25 t4.length tc25, .slice tp26 t5.length tc26, .int .i64 0, .int .i64 0, .int .i64 0, .slice none 0 0] 49 (0, 0))) := E9_4
  have TT25 : Hid (Tx ((w26.setCell ⟨b8, 3, none⟩ (.slice tp25 t4.length tc25)).setCell ⟨b8, 4, none⟩ (.slice tp26 t5.length tc26)) p (w.heap.size + 1) B (.slice tp25 t4.length tc25) t4) := T25_26.out.below (((Below.refl _ _).setCell (p := ⟨b8, 3, none⟩) (Nat.le_of_succ_le L8.out.1) _).setCell (p := ⟨b8, 4, none⟩) (Nat.le_of_succ_le L8.out.1) _)
  have TT26 : Hid (Tx ((w26.setCell ⟨b8, 3, none⟩ (.slice tp25 t4.length tc25)).setCell ⟨b8, 4, none⟩ (.slice tp26 t5.length tc26)) p (w.heap.size + 1) B (.slice tp26 t5.length tc26) t5) := T26.out.below (((Below.refl _ _).setCell (p := ⟨b8, 3, none⟩) (Nat.le_of_succ_le L8.out.1) _).setCell (p := ⟨b8, 4, none⟩) (Nat.le_of_succ_le L8.out.1) _)
  clear E9_3 d3 f3 E9_4 d4 f4 D25 E25 O25 D26 E26 O26 D8 E8 c4 T25 T26 T25_26
  generalize ((w26.setCell ⟨b8, 3, none⟩ (.slice tp25 t4.length tc25)).setCell ⟨b8, 4, none⟩ (.slice tp26 t5.length tc26)) = w6 at *
  have EN6 : Hid (EnNew (w.heap.size + 1) w6 (.agg #[.int .i64 1, .int .i64 a, .int .i64 b, .slice tp25 t4.length tc25, .slice tp26 t5.length tc26, .int .i64 0, .int .i64 0, .int .i64 0, .slice none 0 0]) ⟨1, a, b, t4, t5, 0, 0, 0, []⟩) := fun w2 ha => ⟨tp25, tc25, tp26, tc26, none, 0, rfl, TT25.out.agree ha, TT26.out.agree ha, WrRow.nil _ _, rT_le H4.out, rT_le H5.out, by simp⟩
  refine (c33 D6 HEN).mono ?_
  rintro e _ ⟨rfl, rfl⟩
  have x0 : w6.cell? ⟨w.heap.size, 0, none⟩ = some (.int .i64 0) := by rw [cell_of_row _ _ _ _ _ _ D6.out.at2]; rfl
  have y0 : w6.frozen? ⟨w.heap.size, 0, none⟩ = false := frozen_of_row _ _ _ _ _ D6.out.at2
  have x1 : w6.cell? ⟨w.heap.size, 1, none⟩ = some (.int .i64 0) := by rw [cell_of_row _ _ _ _ _ _ D6.out.at2]; rfl
  have y1 : w6.frozen? ⟨w.heap.size, 1, none⟩ = false := frozen_of_row _ _ _ _ _ D6.out.at2
  have x2 : w6.cell? ⟨w.heap.size, 2, none⟩ = some (.int .i64 0) := by rw [cell_of_row _ _ _ _ _ _ D6.out.at2]; rfl
  have y2 : w6.frozen? ⟨w.heap.size, 2, none⟩ = false := frozen_of_row _ _ _ _ _ D6.out.at2
  have x3 : w6.cell? ⟨w.heap.size, 3, none⟩ = some (.slice none 0 0) := by rw [cell_of_row _ _ _ _ _ _ D6.out.at2]; rfl
  have y3 : w6.frozen? ⟨w.heap.size, 3, none⟩ = false := frozen_of_row _ _ _ _ _ D6.out.at2
  have x4 : w6.cell? ⟨w.heap.size, 4, none⟩ = some (.slice none 0 0) := by rw [cell_of_row _ _ _ _ _ _ D6.out.at2]; rfl
  have y4 : w6.frozen? ⟨w.heap.size, 4, none⟩ = false := frozen_of_row _ _ _ _ _ D6.out.at2
  have x5 : w6.cell? ⟨w.heap.size, 5, none⟩ = some (.int .i64 0) := by rw [cell_of_row _ _ _ _ _ _ D6.out.at2]; rfl
  have y5 : w6.frozen? ⟨w.heap.size, 5, none⟩ = false := frozen_of_row _ _ _ _ _ D6.out.at2
  have x6 : w6.cell? ⟨w.heap.size, 6, none⟩ = some (.int .i64 0) := by rw [cell_of_row _ _ _ _ _ _ D6.out.at2]; rfl
  have y6 : w6.frozen? ⟨w.heap.size, 6, none⟩ = false := frozen_of_row _ _ _ _ _ D6.out.at2
  have x7 : w6.cell? ⟨w.heap.size, 7, none⟩ = some (.int .i64 0) := by rw [cell_of_row _ _ _ _ _ _ D6.out.at2]; rfl
  have y7 : w6.frozen? ⟨w.heap.size, 7, none⟩ = false := frozen_of_row _ _ _ _ _ D6.out.at2
  have x8 : w6.cell? ⟨w.heap.size, 8, none⟩ = some (.slice none 0 0) := by rw [cell_of_row _ _ _ _ _ _ D6.out.at2]; rfl
  have y8 : w6.frozen? ⟨w.heap.size, 8, none⟩ = false := frozen_of_row _ _ _ _ _ D6.out.at2
  cases en with
  | false =>
    go_wp2_with fail
    refine bodyPost_ret (results_row2 rfl _ _ w.heap.size 49 _ (0, 0) _ rfl (row9 D6.out.at2 _ _ _ _ _ _ _ _ _) Tryz.underlying49 rfl (by kernel_rfl)) rfl ?_
    rw [← HSS.out]
    exact DecSays.no (bel9 D6.out.bel (Nat.le_refl _) _ _ _ _ _ _ _ _ _) (dec_none1 HD.out HEN.out)
  | true =>
    have d0 : w6.cell? ⟨b8, 0, none⟩ = some (.int .i64 1) := by rw [cell_of_row _ _ _ _ _ _ E6.out]; rfl
    have d1 : w6.cell? ⟨b8, 1, none⟩ = some (.int .i64 a) := by rw [cell_of_row _ _ _ _ _ _ E6.out]; rfl
    have d2 : w6.cell? ⟨b8, 2, none⟩ = some (.int .i64 b) := by rw [cell_of_row _ _ _ _ _ _ E6.out]; rfl
    have d3 : w6.cell? ⟨b8, 3, none⟩ = some (.slice tp25 t4.length tc25) := by rw [cell_of_row _ _ _ _ _ _ E6.out]; rfl
    have d4 : w6.cell? ⟨b8, 4, none⟩ = some (.slice tp26 t5.length tc26) := by rw [cell_of_row _ _ _ _ _ _ E6.out]; rfl
    have d5 : w6.cell? ⟨b8, 5, none⟩ = some (.int .i64 0) := by rw [cell_of_row _ _ _ _ _ _ E6.out]; rfl
    have d6 : w6.cell? ⟨b8, 6, none⟩ = some (.int .i64 0) := by rw [cell_of_row _ _ _ _ _ _ E6.out]; rfl
    have d7 : w6.cell? ⟨b8, 7, none⟩ = some (.int .i64 0) := by rw [cell_of_row _ _ _ _ _ _ E6.out]; rfl
    have d8 : w6.cell? ⟨b8, 8, none⟩ = some (.slice none 0 0) := by rw [cell_of_row _ _ _ _ _ _ E6.out]; rfl
    have HRT := Right_any ⟨1, a, b, t4, t5, 0, 0, 0, []⟩ _ w6 EN6.out.is
    cases hr : right ⟨1, a, b, t4, t5, 0, 0, 0, []⟩ with
    | false =>
      rw [hr] at HRT
      have HR : Hid (right ⟨1, a, b, t4, t5, 0, 0, 0, []⟩ = false) := hr
      clear hr
      have HR7 : ∀ W, W = w6 → Calls Tryz.prog 37 #[.agg #[.int .i64 1, .int .i64 a, .int .i64 b, .slice tp25 t4.length tc25, .slice tp26 t5.length tc26, .int .i64 0, .int .i64 0, .int .i64 0, .slice none 0 0]] W fun e w' => e = .returned (.bool false) ∧ Hid (D4 w w' p B s5) ∧ Hid (Below w6.heap.size w6 w') ∧ w'.cell? ⟨w.heap.size, 0, none⟩ = some (.int .i64 0) ∧ w'.frozen? ⟨w.heap.size, 0, none⟩ = false ∧ w'.cell? ⟨w.heap.size, 1, none⟩ = some (.int .i64 0) ∧ w'.frozen? ⟨w.heap.size, 1, none⟩ = false ∧ w'.cell? ⟨w.heap.size, 2, none⟩ = some (.int .i64 0) ∧ w'.frozen? ⟨w.heap.size, 2, none⟩ = false ∧ w'.cell? ⟨w.heap.size, 3, none⟩ = some (.slice none 0 0) ∧ w'.frozen? ⟨w.heap.size, 3, none⟩ = false ∧ w'.cell? ⟨w.heap.size, 4, none⟩ = some (.slice none 0 0) ∧ w'.frozen? ⟨w.heap.size, 4, none⟩ = false ∧ w'.cell? ⟨w.heap.size, 5, none⟩ = some (.int .i64 0) ∧ w'.frozen? ⟨w.heap.size, 5, none⟩ = false ∧ w'.cell? ⟨w.heap.size, 6, none⟩ = some (.int .i64 0) ∧ w'.frozen? ⟨w.heap.size, 6, none⟩ = false ∧ w'.cell? ⟨w.heap.size, 7, none⟩ = some (.int .i64 0) ∧ w'.frozen? ⟨w.heap.size, 7, none⟩ = false ∧ w'.cell? ⟨w.heap.size, 8, none⟩ = some (.slice none 0 0) ∧ w'.frozen? ⟨w.heap.size, 8, none⟩ = false := by
        rintro W rfl
        refine HRT.mono ?_
        rintro e w' ⟨rfl, h7⟩
        have D7 : D4 w w' p B s5 := D6.out.up (bel_le h7 D6.out.lt)
        have E7 := (h7.block b8 (Array.getElem?_eq_some_iff.1 E6.out).1).trans E6.out
        refine ⟨rfl, D7, h7, ?_, frozen_of_row _ _ _ _ _ D7.at2, ?_, frozen_of_row _ _ _ _ _ D7.at2, ?_, frozen_of_row _ _ _ _ _ D7.at2, ?_, frozen_of_row _ _ _ _ _ D7.at2, ?_, frozen_of_row _ _ _ _ _ D7.at2, ?_, frozen_of_row _ _ _ _ _ D7.at2, ?_, frozen_of_row _ _ _ _ _ D7.at2, ?_, frozen_of_row _ _ _ _ _ D7.at2, ?_, frozen_of_row _ _ _ _ _ D7.at2⟩
        · rw [cell_of_row _ _ _ _ _ _ D7.at2]; rfl
        · rw [cell_of_row _ _ _ _ _ _ D7.at2]; rfl
        · rw [cell_of_row _ _ _ _ _ _ D7.at2]; rfl
        · rw [cell_of_row _ _ _ _ _ _ D7.at2]; rfl
        · rw [cell_of_row _ _ _ _ _ _ D7.at2]; rfl
        · rw [cell_of_row _ _ _ _ _ _ D7.at2]; rfl
        · rw [cell_of_row _ _ _ _ _ _ D7.at2]; rfl
        · rw [cell_of_row _ _ _ _ _ _ D7.at2]; rfl
        · rw [cell_of_row _ _ _ _ _ _ D7.at2]; rfl
      clear HRT
      go_wp2_with (first | (go_at_call 37; refine (HR7 _ rfl).mono ?_; rintro e w7 ⟨rfl, D7, B7, u0, v0, u1, v1, u2, v2, u3, v3, u4, v4, u5, v5, u6, v6, u7, v7, u8, v8⟩))
      refine bodyPost_ret (results_row2 rfl _ _ w.heap.size 49 _ (0, 0) _ rfl (row9 D7.out.at2 _ _ _ _ _ _ _ _ _) Tryz.underlying49 rfl (by kernel_rfl)) rfl ?_
      rw [← HSS.out]
      exact DecSays.no (bel9 D7.out.bel (Nat.le_refl _) _ _ _ _ _ _ _ _ _) (dec_none2 HD.out HR.out)
    | true =>
      rw [hr] at HRT
      have HR : Hid (right ⟨1, a, b, t4, t5, 0, 0, 0, []⟩ = true) := hr
      clear hr
      have HR7 : ∀ W, W = w6 → Calls Tryz.prog 37 #[.agg #[.int .i64 1, .int .i64 a, .int .i64 b, .slice tp25 t4.length tc25, .slice tp26 t5.length tc26, .int .i64 0, .int .i64 0, .int .i64 0, .slice none 0 0]] W fun e w' => e = .returned (.bool true) ∧ Hid (D4 w w' p B s5) ∧ Hid (Below w6.heap.size w6 w') ∧ w'.cell? ⟨w.heap.size, 0, none⟩ = some (.int .i64 0) ∧ w'.frozen? ⟨w.heap.size, 0, none⟩ = false ∧ w'.cell? ⟨w.heap.size, 1, none⟩ = some (.int .i64 0) ∧ w'.frozen? ⟨w.heap.size, 1, none⟩ = false ∧ w'.cell? ⟨w.heap.size, 2, none⟩ = some (.int .i64 0) ∧ w'.frozen? ⟨w.heap.size, 2, none⟩ = false ∧ w'.cell? ⟨w.heap.size, 3, none⟩ = some (.slice none 0 0) ∧ w'.frozen? ⟨w.heap.size, 3, none⟩ = false ∧ w'.cell? ⟨w.heap.size, 4, none⟩ = some (.slice none 0 0) ∧ w'.frozen? ⟨w.heap.size, 4, none⟩ = false ∧ w'.cell? ⟨w.heap.size, 5, none⟩ = some (.int .i64 0) ∧ w'.frozen? ⟨w.heap.size, 5, none⟩ = false ∧ w'.cell? ⟨w.heap.size, 6, none⟩ = some (.int .i64 0) ∧ w'.frozen? ⟨w.heap.size, 6, none⟩ = false ∧ w'.cell? ⟨w.heap.size, 7, none⟩ = some (.int .i64 0) ∧ w'.frozen? ⟨w.heap.size, 7, none⟩ = false ∧ w'.cell? ⟨w.heap.size, 8, none⟩ = some (.slice none 0 0) ∧ w'.frozen? ⟨w.heap.size, 8, none⟩ = false ∧ w'.cell? ⟨b8, 0, none⟩ = some (.int .i64 1) ∧ w'.cell? ⟨b8, 1, none⟩ = some (.int .i64 a) ∧ w'.cell? ⟨b8, 2, none⟩ = some (.int .i64 b) ∧ w'.cell? ⟨b8, 3, none⟩ = some (.slice tp25 t4.length tc25) ∧ w'.cell? ⟨b8, 4, none⟩ = some (.slice tp26 t5.length tc26) ∧ w'.cell? ⟨b8, 5, none⟩ = some (.int .i64 0) ∧ w'.cell? ⟨b8, 6, none⟩ = some (.int .i64 0) ∧ w'.cell? ⟨b8, 7, none⟩ = some (.int .i64 0) ∧ w'.cell? ⟨b8, 8, none⟩ = some (.slice none 0 0) := by
        rintro W rfl
        refine HRT.mono ?_
        rintro e w' ⟨rfl, h7⟩
        have D7 : D4 w w' p B s5 := D6.out.up (bel_le h7 D6.out.lt)
        have E7 := (h7.block b8 (Array.getElem?_eq_some_iff.1 E6.out).1).trans E6.out
        refine ⟨rfl, D7, h7, ?_, frozen_of_row _ _ _ _ _ D7.at2, ?_, frozen_of_row _ _ _ _ _ D7.at2, ?_, frozen_of_row _ _ _ _ _ D7.at2, ?_, frozen_of_row _ _ _ _ _ D7.at2, ?_, frozen_of_row _ _ _ _ _ D7.at2, ?_, frozen_of_row _ _ _ _ _ D7.at2, ?_, frozen_of_row _ _ _ _ _ D7.at2, ?_, frozen_of_row _ _ _ _ _ D7.at2, ?_, frozen_of_row _ _ _ _ _ D7.at2, ?_, ?_, ?_, ?_, ?_, ?_, ?_, ?_, ?_⟩
        · rw [cell_of_row _ _ _ _ _ _ D7.at2]; rfl
        · rw [cell_of_row _ _ _ _ _ _ D7.at2]; rfl
        · rw [cell_of_row _ _ _ _ _ _ D7.at2]; rfl
        · rw [cell_of_row _ _ _ _ _ _ D7.at2]; rfl
        · rw [cell_of_row _ _ _ _ _ _ D7.at2]; rfl
        · rw [cell_of_row _ _ _ _ _ _ D7.at2]; rfl
        · rw [cell_of_row _ _ _ _ _ _ D7.at2]; rfl
        · rw [cell_of_row _ _ _ _ _ _ D7.at2]; rfl
        · rw [cell_of_row _ _ _ _ _ _ D7.at2]; rfl
        · rw [cell_of_row _ _ _ _ _ _ E7]; rfl
        · rw [cell_of_row _ _ _ _ _ _ E7]; rfl
        · rw [cell_of_row _ _ _ _ _ _ E7]; rfl
        · rw [cell_of_row _ _ _ _ _ _ E7]; rfl
        · rw [cell_of_row _ _ _ _ _ _ E7]; rfl
        · rw [cell_of_row _ _ _ _ _ _ E7]; rfl
        · rw [cell_of_row _ _ _ _ _ _ E7]; rfl
        · rw [cell_of_row _ _ _ _ _ _ E7]; rfl
        · rw [cell_of_row _ _ _ _ _ _ E7]; rfl
      clear HRT
      go_wp2_with (first | (go_at_call 37; refine (HR7 _ rfl).mono ?_; rintro e w7 ⟨rfl, D7, B7, u0, v0, u1, v1, u2, v2, u3, v3, u4, v4, u5, v5, u6, v6, u7, v7, u8, v8, z0, z1, z2, z3, z4, z5, z6, z7, z8⟩))
      refine bodyPost_ret (results_row2 rfl _ _ w.heap.size 49 _ (0, 0) _ rfl (row9 D7.out.at2 _ _ _ _ _ _ _ _ _) Tryz.underlying49 rfl (by kernel_rfl)) rfl ?_
      rw [← HSS.out]
      exact DecSays.yes (bel9 D7.out.bel (Nat.le_refl _) _ _ _ _ _ _ _ _ _) (dec_some HD.out HEN.out HR.out) ((EN6.out.agree (Agree.below B7.out)).last (only9 _ _ _ _ _ _ _ _ _ _ _))
end Go.Proofs.YtfjdaafckiefdaaGreatDoor.E9
/- The walk of Decode where the kind is 2. -/
namespace Go.Proofs.YtfjdaafckiefdaaGreatDoor.E9
open Go.RowKit C8
set_option maxHeartbeats 4000000 in
theorem dk2 (sv : Value) (l : List Nat) (w : World) (hs : Src w sv l) (hl : l.length ≤ 900000) (a b : Int) (s1 s2 s3 : Sta) (H1 : Hid (rN 0 1099511627776 (l, false) = (2, s1))) (H2 : Hid (rN 1 16 s1 = (a, s2))) (H3 : Hid (rN 0 1099511627776 s2 = (b, s3)))  (t4 : List Nat) (s4 : Sta) (H4 : Hid (rT 0 4096 s3 = (t4, s4))) (en : Bool) (HEN : Hid ((!s4.2 && decide (s4.1 = [])) = en)) :
    Calls Tryz.prog 68 #[sv] w fun e w' => DecSays l w e w' := by
  have HD : Hid (decE false (l, false) = (⟨2, a, b, t4, [], 0, 0, 0, []⟩, s4)) := by
    show _ = _
    rw [decE_hd H1.out H2.out H3.out]
    unfold tl
    rw [if_neg (by decide : ¬ (2 : Int) = 1), if_pos rfl]
    simp [lo1, hiT, H4.out]
  have HRD : ∀ W, Hid (Below w.heap.size w W) → Calls Tryz.prog 46 #[sv] W fun e w' => ∃ p, e = .returned (.pointer (some ⟨p, 0, none⟩)) ∧ Hid (RdS w' p W.heap.size w'.heap.size (l, false)) ∧ Hid (W.heap.size ≤ p ∧ p < w'.heap.size) ∧ Hid (Below W.heap.size W w') := fun W hW => (read_any sv l W (hs.below hW.out) hl).mono (by
    rintro e w' ⟨p, rfl, h1, h2, h3, h4⟩
    exact ⟨p, rfl, h1, ⟨h2, h3⟩, h4⟩)
  obtain ⟨sq, sc, rfl, -⟩ := hs.slice
  generalize l.length = ln at *
  clear hs hl
  have HB0 : Hid (∀ o, Below w.heap.size w (w.alloc o)) := fun o => bel_alloc (Nat.le_refl _) o
  obtain ⟨S, HSS⟩ : ∃ S, Hid (DecSays l w = S) := ⟨_, rfl⟩
  rw [HSS.out]
  go_enter Tryz.func68, Tryz.ntmps68
  go_wp2_with (first
    | (go_at_call 46; refine (HRD _ (HB0.out _)).mono ?_; rintro e w1 ⟨p, rfl, R1, P1, B1⟩; clear HRD))
  have D1 : Hid (D4 w (w1.alloc (.cells #[.pointer (some ⟨p, 0, none⟩)] 81)) p w1.heap.size (l, false)) := D4.start B1.out R1.out P1.out.1 P1.out.2
  clear R1 P1 B1 HB0
  generalize w1.alloc (.cells #[.pointer (some ⟨p, 0, none⟩)] 81) = W1 at *
  generalize w1.heap.size = B at *
  go_wp2_with (first
    | (go_at_call 111; refine (c28 (by assumption) (by assumption)).mono ?_; rintro e w2 ⟨rfl, D2, O2⟩)
    | (go_at_call 112; refine (c30 (by assumption) (by assumption)).mono ?_; rintro e w3 ⟨rfl, D3, O3⟩))
  have D8 : Hid (D4 w (w2.alloc (.cells #[.int .i64 2, .int .i64 a, .int .i64 b, .slice none 0 0, .slice none 0 0, .int .i64 0, .int .i64 0, .int .i64 0, .slice none 0 0] 49)) p B s3) := D2.out.up (bel_alloc D2.out.lt _)
  have E8 : Hid ((w2.alloc (.cells #[.int .i64 2, .int .i64 a, .int .i64 b, .slice none 0 0, .slice none 0 0, .int .i64 0, .int .i64 0, .int .i64 0, .slice none 0 0] 49)).heap[w2.heap.size]? = some (.cells #[.int .i64 2, .int .i64 a, .int .i64 b, .slice none 0 0, .slice none 0 0, .int .i64 0, .int .i64 0, .int .i64 0, .slice none 0 0] 49 (0, 0))) := heap_alloc_new w2 _
  have L8 : Hid (B + 1 ≤ w2.heap.size ∧ p < w2.heap.size) := ⟨D2.out.lt, Nat.lt_trans D2.out.hi D2.out.lt⟩
  clear D1 D2 D3 O2 O3
  generalize w2.alloc (.cells #[.int .i64 2, .int .i64 a, .int .i64 b, .slice none 0 0, .slice none 0 0, .int .i64 0, .int .i64 0, .int .i64 0, .slice none 0 0] 49) = W8 at *
  generalize w2.heap.size = b8 at *
  refine (c31 D8 H4).mono ?_
  rintro e w25 ⟨tp25, tc25, rfl, T25, D25, O25⟩
  have E25 : Hid (w25.heap[b8]? = some (.cells #[.int .i64 2, .int .i64 a, .int .i64 b, .slice none 0 0, .slice none 0 0, .int .i64 0, .int .i64 0, .int .i64 0, .slice none 0 0] 49 (0, 0))) := (O25.out.block b8 (Array.getElem?_eq_some_iff.1 E8.out).1 (by have := L8.out; simp; omega)).trans E8.out
  have d3 : w25.cell? ⟨b8, 3, none⟩ = some (.slice none 0 0) := by rw [cell_of_row _ _ _ _ _ _ E25.out]; rfl
  have f3 : w25.frozen? ⟨b8, 3, none⟩ = false := frozen_of_row _ _ _ _ _ E25.out
  have c4 := D25.out.c4
  go_wp2_with fail
  have E9_3 : (w25.setCell ⟨b8, 3, none⟩ (.slice tp25 t4.length tc25)).heap[b8]? = some (.cells #[.int .i64 2, .int .i64 a, .int .i64 b, .slice tp25 t4.length tc25, .slice none 0 0, .int .i64 0, .int .i64 0, .int .i64 0, .slice none 0 0] 49 (0, 0)) := heap_setCell_same _ b8 3 _ 49 _ E25.out
  have D6 : Hid (D4 w (w25.setCell ⟨b8, 3, none⟩ (.slice tp25 t4.length tc25)) p B s4) := D25.out.up ((Below.refl _ _).setCell (p := ⟨b8, 3, none⟩) L8.out.1 _)
  have E6 : Hid ((w25.setCell ⟨b8, 3, none⟩ (.slice tp25 t4.length tc25)).heap[b8]? = some (.cells #[.int .i64 2, .int .i64 a, .int .i64 b, .slice tp25 t4.length tc25, .slice none 0 0, .int .i64 0, .int .i64 0, .int .i64 0, .slice none 0 0] 49 (0, 0))) := E9_3
  have TT25 : Hid (Tx (w25.setCell ⟨b8, 3, none⟩ (.slice tp25 t4.length tc25)) p (w.heap.size + 1) B (.slice tp25 t4.length tc25) t4) := T25.out.below ((Below.refl _ _).setCell (p := ⟨b8, 3, none⟩) (Nat.le_of_succ_le L8.out.1) _)
  clear E9_3 d3 f3 D25 E25 O25 D8 E8 c4 T25
  generalize (w25.setCell ⟨b8, 3, none⟩ (.slice tp25 t4.length tc25)) = w6 at *
  have EN6 : Hid (EnNew (w.heap.size + 1) w6 (.agg #[.int .i64 2, .int .i64 a, .int .i64 b, .slice tp25 t4.length tc25, .slice none 0 0, .int .i64 0, .int .i64 0, .int .i64 0, .slice none 0 0]) ⟨2, a, b, t4, [], 0, 0, 0, []⟩) := fun w2 ha => ⟨tp25, tc25, none, 0, none, 0, rfl, TT25.out.agree ha, Src.nil _, WrRow.nil _ _, rT_le H4.out, (by simp), by simp⟩
  refine (c33 D6 HEN).mono ?_
  rintro e _ ⟨rfl, rfl⟩
  have x0 : w6.cell? ⟨w.heap.size, 0, none⟩ = some (.int .i64 0) := by rw [cell_of_row _ _ _ _ _ _ D6.out.at2]; rfl
  have y0 : w6.frozen? ⟨w.heap.size, 0, none⟩ = false := frozen_of_row _ _ _ _ _ D6.out.at2
  have x1 : w6.cell? ⟨w.heap.size, 1, none⟩ = some (.int .i64 0) := by rw [cell_of_row _ _ _ _ _ _ D6.out.at2]; rfl
  have y1 : w6.frozen? ⟨w.heap.size, 1, none⟩ = false := frozen_of_row _ _ _ _ _ D6.out.at2
  have x2 : w6.cell? ⟨w.heap.size, 2, none⟩ = some (.int .i64 0) := by rw [cell_of_row _ _ _ _ _ _ D6.out.at2]; rfl
  have y2 : w6.frozen? ⟨w.heap.size, 2, none⟩ = false := frozen_of_row _ _ _ _ _ D6.out.at2
  have x3 : w6.cell? ⟨w.heap.size, 3, none⟩ = some (.slice none 0 0) := by rw [cell_of_row _ _ _ _ _ _ D6.out.at2]; rfl
  have y3 : w6.frozen? ⟨w.heap.size, 3, none⟩ = false := frozen_of_row _ _ _ _ _ D6.out.at2
  have x4 : w6.cell? ⟨w.heap.size, 4, none⟩ = some (.slice none 0 0) := by rw [cell_of_row _ _ _ _ _ _ D6.out.at2]; rfl
  have y4 : w6.frozen? ⟨w.heap.size, 4, none⟩ = false := frozen_of_row _ _ _ _ _ D6.out.at2
  have x5 : w6.cell? ⟨w.heap.size, 5, none⟩ = some (.int .i64 0) := by rw [cell_of_row _ _ _ _ _ _ D6.out.at2]; rfl
  have y5 : w6.frozen? ⟨w.heap.size, 5, none⟩ = false := frozen_of_row _ _ _ _ _ D6.out.at2
  have x6 : w6.cell? ⟨w.heap.size, 6, none⟩ = some (.int .i64 0) := by rw [cell_of_row _ _ _ _ _ _ D6.out.at2]; rfl
  have y6 : w6.frozen? ⟨w.heap.size, 6, none⟩ = false := frozen_of_row _ _ _ _ _ D6.out.at2
  have x7 : w6.cell? ⟨w.heap.size, 7, none⟩ = some (.int .i64 0) := by rw [cell_of_row _ _ _ _ _ _ D6.out.at2]; rfl
  have y7 : w6.frozen? ⟨w.heap.size, 7, none⟩ = false := frozen_of_row _ _ _ _ _ D6.out.at2
  have x8 : w6.cell? ⟨w.heap.size, 8, none⟩ = some (.slice none 0 0) := by rw [cell_of_row _ _ _ _ _ _ D6.out.at2]; rfl
  have y8 : w6.frozen? ⟨w.heap.size, 8, none⟩ = false := frozen_of_row _ _ _ _ _ D6.out.at2
  cases en with
  | false =>
    go_wp2_with fail
    refine bodyPost_ret (results_row2 rfl _ _ w.heap.size 49 _ (0, 0) _ rfl (row9 D6.out.at2 _ _ _ _ _ _ _ _ _) Tryz.underlying49 rfl (by kernel_rfl)) rfl ?_
    rw [← HSS.out]
    exact DecSays.no (bel9 D6.out.bel (Nat.le_refl _) _ _ _ _ _ _ _ _ _) (dec_none1 HD.out HEN.out)
  | true =>
    have d0 : w6.cell? ⟨b8, 0, none⟩ = some (.int .i64 2) := by rw [cell_of_row _ _ _ _ _ _ E6.out]; rfl
    have d1 : w6.cell? ⟨b8, 1, none⟩ = some (.int .i64 a) := by rw [cell_of_row _ _ _ _ _ _ E6.out]; rfl
    have d2 : w6.cell? ⟨b8, 2, none⟩ = some (.int .i64 b) := by rw [cell_of_row _ _ _ _ _ _ E6.out]; rfl
    have d3 : w6.cell? ⟨b8, 3, none⟩ = some (.slice tp25 t4.length tc25) := by rw [cell_of_row _ _ _ _ _ _ E6.out]; rfl
    have d4 : w6.cell? ⟨b8, 4, none⟩ = some (.slice none 0 0) := by rw [cell_of_row _ _ _ _ _ _ E6.out]; rfl
    have d5 : w6.cell? ⟨b8, 5, none⟩ = some (.int .i64 0) := by rw [cell_of_row _ _ _ _ _ _ E6.out]; rfl
    have d6 : w6.cell? ⟨b8, 6, none⟩ = some (.int .i64 0) := by rw [cell_of_row _ _ _ _ _ _ E6.out]; rfl
    have d7 : w6.cell? ⟨b8, 7, none⟩ = some (.int .i64 0) := by rw [cell_of_row _ _ _ _ _ _ E6.out]; rfl
    have d8 : w6.cell? ⟨b8, 8, none⟩ = some (.slice none 0 0) := by rw [cell_of_row _ _ _ _ _ _ E6.out]; rfl
    have HRT := Right_any ⟨2, a, b, t4, [], 0, 0, 0, []⟩ _ w6 EN6.out.is
    cases hr : right ⟨2, a, b, t4, [], 0, 0, 0, []⟩ with
    | false =>
      rw [hr] at HRT
      have HR : Hid (right ⟨2, a, b, t4, [], 0, 0, 0, []⟩ = false) := hr
      clear hr
      have HR7 : ∀ W, W = w6 → Calls Tryz.prog 37 #[.agg #[.int .i64 2, .int .i64 a, .int .i64 b, .slice tp25 t4.length tc25, .slice none 0 0, .int .i64 0, .int .i64 0, .int .i64 0, .slice none 0 0]] W fun e w' => e = .returned (.bool false) ∧ Hid (D4 w w' p B s4) ∧ Hid (Below w6.heap.size w6 w') ∧ w'.cell? ⟨w.heap.size, 0, none⟩ = some (.int .i64 0) ∧ w'.frozen? ⟨w.heap.size, 0, none⟩ = false ∧ w'.cell? ⟨w.heap.size, 1, none⟩ = some (.int .i64 0) ∧ w'.frozen? ⟨w.heap.size, 1, none⟩ = false ∧ w'.cell? ⟨w.heap.size, 2, none⟩ = some (.int .i64 0) ∧ w'.frozen? ⟨w.heap.size, 2, none⟩ = false ∧ w'.cell? ⟨w.heap.size, 3, none⟩ = some (.slice none 0 0) ∧ w'.frozen? ⟨w.heap.size, 3, none⟩ = false ∧ w'.cell? ⟨w.heap.size, 4, none⟩ = some (.slice none 0 0) ∧ w'.frozen? ⟨w.heap.size, 4, none⟩ = false ∧ w'.cell? ⟨w.heap.size, 5, none⟩ = some (.int .i64 0) ∧ w'.frozen? ⟨w.heap.size, 5, none⟩ = false ∧ w'.cell? ⟨w.heap.size, 6, none⟩ = some (.int .i64 0) ∧ w'.frozen? ⟨w.heap.size, 6, none⟩ = false ∧ w'.cell? ⟨w.heap.size, 7, none⟩ = some (.int .i64 0) ∧ w'.frozen? ⟨w.heap.size, 7, none⟩ = false ∧ w'.cell? ⟨w.heap.size, 8, none⟩ = some (.slice none 0 0) ∧ w'.frozen? ⟨w.heap.size, 8, none⟩ = false := by
        rintro W rfl
        refine HRT.mono ?_
        rintro e w' ⟨rfl, h7⟩
        have D7 : D4 w w' p B s4 := D6.out.up (bel_le h7 D6.out.lt)
        have E7 := (h7.block b8 (Array.getElem?_eq_some_iff.1 E6.out).1).trans E6.out
        refine ⟨rfl, D7, h7, ?_, frozen_of_row _ _ _ _ _ D7.at2, ?_, frozen_of_row _ _ _ _ _ D7.at2, ?_, frozen_of_row _ _ _ _ _ D7.at2, ?_, frozen_of_row _ _ _ _ _ D7.at2, ?_, frozen_of_row _ _ _ _ _ D7.at2, ?_, frozen_of_row _ _ _ _ _ D7.at2, ?_, frozen_of_row _ _ _ _ _ D7.at2, ?_, frozen_of_row _ _ _ _ _ D7.at2, ?_, frozen_of_row _ _ _ _ _ D7.at2⟩
        · rw [cell_of_row _ _ _ _ _ _ D7.at2]; rfl
        · rw [cell_of_row _ _ _ _ _ _ D7.at2]; rfl
        · rw [cell_of_row _ _ _ _ _ _ D7.at2]; rfl
        · rw [cell_of_row _ _ _ _ _ _ D7.at2]; rfl
        · rw [cell_of_row _ _ _ _ _ _ D7.at2]; rfl
        · rw [cell_of_row _ _ _ _ _ _ D7.at2]; rfl
        · rw [cell_of_row _ _ _ _ _ _ D7.at2]; rfl
        · rw [cell_of_row _ _ _ _ _ _ D7.at2]; rfl
        · rw [cell_of_row _ _ _ _ _ _ D7.at2]; rfl
      clear HRT
      go_wp2_with (first | (go_at_call 37; refine (HR7 _ rfl).mono ?_; rintro e w7 ⟨rfl, D7, B7, u0, v0, u1, v1, u2, v2, u3, v3, u4, v4, u5, v5, u6, v6, u7, v7, u8, v8⟩))
      refine bodyPost_ret (results_row2 rfl _ _ w.heap.size 49 _ (0, 0) _ rfl (row9 D7.out.at2 _ _ _ _ _ _ _ _ _) Tryz.underlying49 rfl (by kernel_rfl)) rfl ?_
      rw [← HSS.out]
      exact DecSays.no (bel9 D7.out.bel (Nat.le_refl _) _ _ _ _ _ _ _ _ _) (dec_none2 HD.out HR.out)
    | true =>
      rw [hr] at HRT
      have HR : Hid (right ⟨2, a, b, t4, [], 0, 0, 0, []⟩ = true) := hr
      clear hr
      have HR7 : ∀ W, W = w6 → Calls Tryz.prog 37 #[.agg #[.int .i64 2, .int .i64 a, .int .i64 b, .slice tp25 t4.length tc25, .slice none 0 0, .int .i64 0, .int .i64 0, .int .i64 0, .slice none 0 0]] W fun e w' => e = .returned (.bool true) ∧ Hid (D4 w w' p B s4) ∧ Hid (Below w6.heap.size w6 w') ∧ w'.cell? ⟨w.heap.size, 0, none⟩ = some (.int .i64 0) ∧ w'.frozen? ⟨w.heap.size, 0, none⟩ = false ∧ w'.cell? ⟨w.heap.size, 1, none⟩ = some (.int .i64 0) ∧ w'.frozen? ⟨w.heap.size, 1, none⟩ = false ∧ w'.cell? ⟨w.heap.size, 2, none⟩ = some (.int .i64 0) ∧ w'.frozen? ⟨w.heap.size, 2, none⟩ = false ∧ w'.cell? ⟨w.heap.size, 3, none⟩ = some (.slice none 0 0) ∧ w'.frozen? ⟨w.heap.size, 3, none⟩ = false ∧ w'.cell? ⟨w.heap.size, 4, none⟩ = some (.slice none 0 0) ∧ w'.frozen? ⟨w.heap.size, 4, none⟩ = false ∧ w'.cell? ⟨w.heap.size, 5, none⟩ = some (.int .i64 0) ∧ w'.frozen? ⟨w.heap.size, 5, none⟩ = false ∧ w'.cell? ⟨w.heap.size, 6, none⟩ = some (.int .i64 0) ∧ w'.frozen? ⟨w.heap.size, 6, none⟩ = false ∧ w'.cell? ⟨w.heap.size, 7, none⟩ = some (.int .i64 0) ∧ w'.frozen? ⟨w.heap.size, 7, none⟩ = false ∧ w'.cell? ⟨w.heap.size, 8, none⟩ = some (.slice none 0 0) ∧ w'.frozen? ⟨w.heap.size, 8, none⟩ = false ∧ w'.cell? ⟨b8, 0, none⟩ = some (.int .i64 2) ∧ w'.cell? ⟨b8, 1, none⟩ = some (.int .i64 a) ∧ w'.cell? ⟨b8, 2, none⟩ = some (.int .i64 b) ∧ w'.cell? ⟨b8, 3, none⟩ = some (.slice tp25 t4.length tc25) ∧ w'.cell? ⟨b8, 4, none⟩ = some (.slice none 0 0) ∧ w'.cell? ⟨b8, 5, none⟩ = some (.int .i64 0) ∧ w'.cell? ⟨b8, 6, none⟩ = some (.int .i64 0) ∧ w'.cell? ⟨b8, 7, none⟩ = some (.int .i64 0) ∧ w'.cell? ⟨b8, 8, none⟩ = some (.slice none 0 0) := by
        rintro W rfl
        refine HRT.mono ?_
        rintro e w' ⟨rfl, h7⟩
        have D7 : D4 w w' p B s4 := D6.out.up (bel_le h7 D6.out.lt)
        have E7 := (h7.block b8 (Array.getElem?_eq_some_iff.1 E6.out).1).trans E6.out
        refine ⟨rfl, D7, h7, ?_, frozen_of_row _ _ _ _ _ D7.at2, ?_, frozen_of_row _ _ _ _ _ D7.at2, ?_, frozen_of_row _ _ _ _ _ D7.at2, ?_, frozen_of_row _ _ _ _ _ D7.at2, ?_, frozen_of_row _ _ _ _ _ D7.at2, ?_, frozen_of_row _ _ _ _ _ D7.at2, ?_, frozen_of_row _ _ _ _ _ D7.at2, ?_, frozen_of_row _ _ _ _ _ D7.at2, ?_, frozen_of_row _ _ _ _ _ D7.at2, ?_, ?_, ?_, ?_, ?_, ?_, ?_, ?_, ?_⟩
        · rw [cell_of_row _ _ _ _ _ _ D7.at2]; rfl
        · rw [cell_of_row _ _ _ _ _ _ D7.at2]; rfl
        · rw [cell_of_row _ _ _ _ _ _ D7.at2]; rfl
        · rw [cell_of_row _ _ _ _ _ _ D7.at2]; rfl
        · rw [cell_of_row _ _ _ _ _ _ D7.at2]; rfl
        · rw [cell_of_row _ _ _ _ _ _ D7.at2]; rfl
        · rw [cell_of_row _ _ _ _ _ _ D7.at2]; rfl
        · rw [cell_of_row _ _ _ _ _ _ D7.at2]; rfl
        · rw [cell_of_row _ _ _ _ _ _ D7.at2]; rfl
        · rw [cell_of_row _ _ _ _ _ _ E7]; rfl
        · rw [cell_of_row _ _ _ _ _ _ E7]; rfl
        · rw [cell_of_row _ _ _ _ _ _ E7]; rfl
        · rw [cell_of_row _ _ _ _ _ _ E7]; rfl
        · rw [cell_of_row _ _ _ _ _ _ E7]; rfl
        · rw [cell_of_row _ _ _ _ _ _ E7]; rfl
        · rw [cell_of_row _ _ _ _ _ _ E7]; rfl
        · rw [cell_of_row _ _ _ _ _ _ E7]; rfl
        · rw [cell_of_row _ _ _ _ _ _ E7]; rfl
      clear HRT
      go_wp2_with (first | (go_at_call 37; refine (HR7 _ rfl).mono ?_; rintro e w7 ⟨rfl, D7, B7, u0, v0, u1, v1, u2, v2, u3, v3, u4, v4, u5, v5, u6, v6, u7, v7, u8, v8, z0, z1, z2, z3, z4, z5, z6, z7, z8⟩))
      refine bodyPost_ret (results_row2 rfl _ _ w.heap.size 49 _ (0, 0) _ rfl (row9 D7.out.at2 _ _ _ _ _ _ _ _ _) Tryz.underlying49 rfl (by kernel_rfl)) rfl ?_
      rw [← HSS.out]
      exact DecSays.yes (bel9 D7.out.bel (Nat.le_refl _) _ _ _ _ _ _ _ _ _) (dec_some HD.out HEN.out HR.out) ((EN6.out.agree (Agree.below B7.out)).last (only9 _ _ _ _ _ _ _ _ _ _ _))
end Go.Proofs.YtfjdaafckiefdaaGreatDoor.E9
/- The walk of Decode where the kind is 3. -/
namespace Go.Proofs.YtfjdaafckiefdaaGreatDoor.E9
open Go.RowKit C8
set_option maxHeartbeats 4000000 in
theorem dk3 (sv : Value) (l : List Nat) (w : World) (hs : Src w sv l) (hl : l.length ≤ 900000) (a b : Int) (s1 s2 s3 : Sta) (H1 : Hid (rN 0 1099511627776 (l, false) = (3, s1))) (H2 : Hid (rN 1 16 s1 = (a, s2))) (H3 : Hid (rN 0 1099511627776 s2 = (b, s3)))  (n4 : Int) (s4 : Sta) (H4 : Hid (rN 1 16 s3 = (n4, s4))) (n5 : Int) (s5 : Sta) (H5 : Hid (rN 0 1099511627776 s4 = (n5, s5))) (en : Bool) (HEN : Hid ((!s5.2 && decide (s5.1 = [])) = en)) :
    Calls Tryz.prog 68 #[sv] w fun e w' => DecSays l w e w' := by
  have HD : Hid (decE false (l, false) = (⟨3, a, b, [], [], n4, n5, 0, []⟩, s5)) := by
    show _ = _
    rw [decE_hd H1.out H2.out H3.out]
    unfold tl
    rw [if_neg (by decide : ¬ (3 : Int) = 1), if_neg (by decide : ¬ (3 : Int) = 2), if_pos rfl]
    simp [lo1, hiR, H4.out, H5.out]
  have HRD : ∀ W, Hid (Below w.heap.size w W) → Calls Tryz.prog 46 #[sv] W fun e w' => ∃ p, e = .returned (.pointer (some ⟨p, 0, none⟩)) ∧ Hid (RdS w' p W.heap.size w'.heap.size (l, false)) ∧ Hid (W.heap.size ≤ p ∧ p < w'.heap.size) ∧ Hid (Below W.heap.size W w') := fun W hW => (read_any sv l W (hs.below hW.out) hl).mono (by
    rintro e w' ⟨p, rfl, h1, h2, h3, h4⟩
    exact ⟨p, rfl, h1, ⟨h2, h3⟩, h4⟩)
  obtain ⟨sq, sc, rfl, -⟩ := hs.slice
  generalize l.length = ln at *
  clear hs hl
  have HB0 : Hid (∀ o, Below w.heap.size w (w.alloc o)) := fun o => bel_alloc (Nat.le_refl _) o
  obtain ⟨S, HSS⟩ : ∃ S, Hid (DecSays l w = S) := ⟨_, rfl⟩
  rw [HSS.out]
  go_enter Tryz.func68, Tryz.ntmps68
  go_wp2_with (first
    | (go_at_call 46; refine (HRD _ (HB0.out _)).mono ?_; rintro e w1 ⟨p, rfl, R1, P1, B1⟩; clear HRD))
  have D1 : Hid (D4 w (w1.alloc (.cells #[.pointer (some ⟨p, 0, none⟩)] 81)) p w1.heap.size (l, false)) := D4.start B1.out R1.out P1.out.1 P1.out.2
  clear R1 P1 B1 HB0
  generalize w1.alloc (.cells #[.pointer (some ⟨p, 0, none⟩)] 81) = W1 at *
  generalize w1.heap.size = B at *
  go_wp2_with (first
    | (go_at_call 111; refine (c28 (by assumption) (by assumption)).mono ?_; rintro e w2 ⟨rfl, D2, O2⟩)
    | (go_at_call 112; refine (c30 (by assumption) (by assumption)).mono ?_; rintro e w3 ⟨rfl, D3, O3⟩))
  have D8 : Hid (D4 w (w2.alloc (.cells #[.int .i64 3, .int .i64 a, .int .i64 b, .slice none 0 0, .slice none 0 0, .int .i64 0, .int .i64 0, .int .i64 0, .slice none 0 0] 49)) p B s3) := D2.out.up (bel_alloc D2.out.lt _)
  have E8 : Hid ((w2.alloc (.cells #[.int .i64 3, .int .i64 a, .int .i64 b, .slice none 0 0, .slice none 0 0, .int .i64 0, .int .i64 0, .int .i64 0, .slice none 0 0] 49)).heap[w2.heap.size]? = some (.cells #[.int .i64 3, .int .i64 a, .int .i64 b, .slice none 0 0, .slice none 0 0, .int .i64 0, .int .i64 0, .int .i64 0, .slice none 0 0] 49 (0, 0))) := heap_alloc_new w2 _
  have L8 : Hid (B + 1 ≤ w2.heap.size ∧ p < w2.heap.size) := ⟨D2.out.lt, Nat.lt_trans D2.out.hi D2.out.lt⟩
  clear D1 D2 D3 O2 O3
  generalize w2.alloc (.cells #[.int .i64 3, .int .i64 a, .int .i64 b, .slice none 0 0, .slice none 0 0, .int .i64 0, .int .i64 0, .int .i64 0, .slice none 0 0] 49) = W8 at *
  generalize w2.heap.size = b8 at *
  refine (c30 D8 H4).mono ?_
  rintro e w25 ⟨rfl, D25, O25⟩
  have E25 : Hid (w25.heap[b8]? = some (.cells #[.int .i64 3, .int .i64 a, .int .i64 b, .slice none 0 0, .slice none 0 0, .int .i64 0, .int .i64 0, .int .i64 0, .slice none 0 0] 49 (0, 0))) := (O25.out.block b8 (Array.getElem?_eq_some_iff.1 E8.out).1 (by have := L8.out; simp; omega)).trans E8.out
  go_wp2_with fail
  refine (c28 D25 H5).mono ?_
  rintro e w26 ⟨rfl, D26, O26⟩
  have E26 : Hid (w26.heap[b8]? = some (.cells #[.int .i64 3, .int .i64 a, .int .i64 b, .slice none 0 0, .slice none 0 0, .int .i64 0, .int .i64 0, .int .i64 0, .slice none 0 0] 49 (0, 0))) := (O26.out.block b8 (Array.getElem?_eq_some_iff.1 E25.out).1 (by have := L8.out; simp; omega)).trans E25.out
  have d5 : w26.cell? ⟨b8, 5, none⟩ = some (.int .i64 0) := by rw [cell_of_row _ _ _ _ _ _ E26.out]; rfl
  have f5 : w26.frozen? ⟨b8, 5, none⟩ = false := frozen_of_row _ _ _ _ _ E26.out
  have d6 : w26.cell? ⟨b8, 6, none⟩ = some (.int .i64 0) := by rw [cell_of_row _ _ _ _ _ _ E26.out]; rfl
  have f6 : w26.frozen? ⟨b8, 6, none⟩ = false := frozen_of_row _ _ _ _ _ E26.out
  have c4 := D26.out.c4
  go_wp2_with fail
  have E9_5 : (w26.setCell ⟨b8, 5, none⟩ (.int .i64 n4)).heap[b8]? = some (.cells #[.int .i64 3, .int .i64 a, .int .i64 b, .slice none 0 0, .slice none 0 0, .int .i64 n4, .int .i64 0, .int .i64 0, .slice none 0 0] 49 (0, 0)) := heap_setCell_same _ b8 5 _ 49 _ E26.out
  have E9_6 : ((w26.setCell ⟨b8, 5, none⟩ (.int .i64 n4)).setCell ⟨b8, 6, none⟩ (.int .i64 n5)).heap[b8]? = some (.cells #[.int .i64 3, .int .i64 a, .int .i64 b, .slice none 0 0, .slice none 0 0, .int .i64 n4, .int .i64 n5, .int .i64 0, .slice none 0 0] 49 (0, 0)) := heap_setCell_same _ b8 6 _ 49 _ E9_5
  have D6 : Hid (D4 w ((w26.setCell ⟨b8, 5, none⟩ (.int .i64 n4)).setCell ⟨b8, 6, none⟩ (.int .i64 n5)) p B s5) := D26.out.up (((Below.refl _ _).setCell (p := ⟨b8, 5, none⟩) L8.out.1 _).setCell (p := ⟨b8, 6, none⟩) L8.out.1 _)
  have E6 : Hid (((w26.setCell ⟨b8, 5, none⟩ (.int .i64 n4)).setCell ⟨b8, 6, none⟩ (.int .i64 n5)).heap[b8]? = some (.cells #[.int .i64 3, .int .i64 a, .int .i64 b, .slice none 0 0, .slice none 0 0, .int .i64 n4, .int .i64 n5, .int .i64 0, .slice none 0 0] 49 (0, 0))) := E9_6
  clear E9_5 d5 f5 E9_6 d6 f6 D25 E25 O25 D26 E26 O26 D8 E8 c4
  generalize ((w26.setCell ⟨b8, 5, none⟩ (.int .i64 n4)).setCell ⟨b8, 6, none⟩ (.int .i64 n5)) = w6 at *
  have EN6 : Hid (EnNew (w.heap.size + 1) w6 (.agg #[.int .i64 3, .int .i64 a, .int .i64 b, .slice none 0 0, .slice none 0 0, .int .i64 n4, .int .i64 n5, .int .i64 0, .slice none 0 0]) ⟨3, a, b, [], [], n4, n5, 0, []⟩) := fun w2 _ => ⟨none, 0, none, 0, none, 0, rfl, Src.nil _, Src.nil _, WrRow.nil _ _, (by simp), (by simp), by simp⟩
  refine (c33 D6 HEN).mono ?_
  rintro e _ ⟨rfl, rfl⟩
  have x0 : w6.cell? ⟨w.heap.size, 0, none⟩ = some (.int .i64 0) := by rw [cell_of_row _ _ _ _ _ _ D6.out.at2]; rfl
  have y0 : w6.frozen? ⟨w.heap.size, 0, none⟩ = false := frozen_of_row _ _ _ _ _ D6.out.at2
  have x1 : w6.cell? ⟨w.heap.size, 1, none⟩ = some (.int .i64 0) := by rw [cell_of_row _ _ _ _ _ _ D6.out.at2]; rfl
  have y1 : w6.frozen? ⟨w.heap.size, 1, none⟩ = false := frozen_of_row _ _ _ _ _ D6.out.at2
  have x2 : w6.cell? ⟨w.heap.size, 2, none⟩ = some (.int .i64 0) := by rw [cell_of_row _ _ _ _ _ _ D6.out.at2]; rfl
  have y2 : w6.frozen? ⟨w.heap.size, 2, none⟩ = false := frozen_of_row _ _ _ _ _ D6.out.at2
  have x3 : w6.cell? ⟨w.heap.size, 3, none⟩ = some (.slice none 0 0) := by rw [cell_of_row _ _ _ _ _ _ D6.out.at2]; rfl
  have y3 : w6.frozen? ⟨w.heap.size, 3, none⟩ = false := frozen_of_row _ _ _ _ _ D6.out.at2
  have x4 : w6.cell? ⟨w.heap.size, 4, none⟩ = some (.slice none 0 0) := by rw [cell_of_row _ _ _ _ _ _ D6.out.at2]; rfl
  have y4 : w6.frozen? ⟨w.heap.size, 4, none⟩ = false := frozen_of_row _ _ _ _ _ D6.out.at2
  have x5 : w6.cell? ⟨w.heap.size, 5, none⟩ = some (.int .i64 0) := by rw [cell_of_row _ _ _ _ _ _ D6.out.at2]; rfl
  have y5 : w6.frozen? ⟨w.heap.size, 5, none⟩ = false := frozen_of_row _ _ _ _ _ D6.out.at2
  have x6 : w6.cell? ⟨w.heap.size, 6, none⟩ = some (.int .i64 0) := by rw [cell_of_row _ _ _ _ _ _ D6.out.at2]; rfl
  have y6 : w6.frozen? ⟨w.heap.size, 6, none⟩ = false := frozen_of_row _ _ _ _ _ D6.out.at2
  have x7 : w6.cell? ⟨w.heap.size, 7, none⟩ = some (.int .i64 0) := by rw [cell_of_row _ _ _ _ _ _ D6.out.at2]; rfl
  have y7 : w6.frozen? ⟨w.heap.size, 7, none⟩ = false := frozen_of_row _ _ _ _ _ D6.out.at2
  have x8 : w6.cell? ⟨w.heap.size, 8, none⟩ = some (.slice none 0 0) := by rw [cell_of_row _ _ _ _ _ _ D6.out.at2]; rfl
  have y8 : w6.frozen? ⟨w.heap.size, 8, none⟩ = false := frozen_of_row _ _ _ _ _ D6.out.at2
  cases en with
  | false =>
    go_wp2_with fail
    refine bodyPost_ret (results_row2 rfl _ _ w.heap.size 49 _ (0, 0) _ rfl (row9 D6.out.at2 _ _ _ _ _ _ _ _ _) Tryz.underlying49 rfl (by kernel_rfl)) rfl ?_
    rw [← HSS.out]
    exact DecSays.no (bel9 D6.out.bel (Nat.le_refl _) _ _ _ _ _ _ _ _ _) (dec_none1 HD.out HEN.out)
  | true =>
    have d0 : w6.cell? ⟨b8, 0, none⟩ = some (.int .i64 3) := by rw [cell_of_row _ _ _ _ _ _ E6.out]; rfl
    have d1 : w6.cell? ⟨b8, 1, none⟩ = some (.int .i64 a) := by rw [cell_of_row _ _ _ _ _ _ E6.out]; rfl
    have d2 : w6.cell? ⟨b8, 2, none⟩ = some (.int .i64 b) := by rw [cell_of_row _ _ _ _ _ _ E6.out]; rfl
    have d3 : w6.cell? ⟨b8, 3, none⟩ = some (.slice none 0 0) := by rw [cell_of_row _ _ _ _ _ _ E6.out]; rfl
    have d4 : w6.cell? ⟨b8, 4, none⟩ = some (.slice none 0 0) := by rw [cell_of_row _ _ _ _ _ _ E6.out]; rfl
    have d5 : w6.cell? ⟨b8, 5, none⟩ = some (.int .i64 n4) := by rw [cell_of_row _ _ _ _ _ _ E6.out]; rfl
    have d6 : w6.cell? ⟨b8, 6, none⟩ = some (.int .i64 n5) := by rw [cell_of_row _ _ _ _ _ _ E6.out]; rfl
    have d7 : w6.cell? ⟨b8, 7, none⟩ = some (.int .i64 0) := by rw [cell_of_row _ _ _ _ _ _ E6.out]; rfl
    have d8 : w6.cell? ⟨b8, 8, none⟩ = some (.slice none 0 0) := by rw [cell_of_row _ _ _ _ _ _ E6.out]; rfl
    have HRT := Right_any ⟨3, a, b, [], [], n4, n5, 0, []⟩ _ w6 EN6.out.is
    cases hr : right ⟨3, a, b, [], [], n4, n5, 0, []⟩ with
    | false =>
      rw [hr] at HRT
      have HR : Hid (right ⟨3, a, b, [], [], n4, n5, 0, []⟩ = false) := hr
      clear hr
      have HR7 : ∀ W, W = w6 → Calls Tryz.prog 37 #[.agg #[.int .i64 3, .int .i64 a, .int .i64 b, .slice none 0 0, .slice none 0 0, .int .i64 n4, .int .i64 n5, .int .i64 0, .slice none 0 0]] W fun e w' => e = .returned (.bool false) ∧ Hid (D4 w w' p B s5) ∧ Hid (Below w6.heap.size w6 w') ∧ w'.cell? ⟨w.heap.size, 0, none⟩ = some (.int .i64 0) ∧ w'.frozen? ⟨w.heap.size, 0, none⟩ = false ∧ w'.cell? ⟨w.heap.size, 1, none⟩ = some (.int .i64 0) ∧ w'.frozen? ⟨w.heap.size, 1, none⟩ = false ∧ w'.cell? ⟨w.heap.size, 2, none⟩ = some (.int .i64 0) ∧ w'.frozen? ⟨w.heap.size, 2, none⟩ = false ∧ w'.cell? ⟨w.heap.size, 3, none⟩ = some (.slice none 0 0) ∧ w'.frozen? ⟨w.heap.size, 3, none⟩ = false ∧ w'.cell? ⟨w.heap.size, 4, none⟩ = some (.slice none 0 0) ∧ w'.frozen? ⟨w.heap.size, 4, none⟩ = false ∧ w'.cell? ⟨w.heap.size, 5, none⟩ = some (.int .i64 0) ∧ w'.frozen? ⟨w.heap.size, 5, none⟩ = false ∧ w'.cell? ⟨w.heap.size, 6, none⟩ = some (.int .i64 0) ∧ w'.frozen? ⟨w.heap.size, 6, none⟩ = false ∧ w'.cell? ⟨w.heap.size, 7, none⟩ = some (.int .i64 0) ∧ w'.frozen? ⟨w.heap.size, 7, none⟩ = false ∧ w'.cell? ⟨w.heap.size, 8, none⟩ = some (.slice none 0 0) ∧ w'.frozen? ⟨w.heap.size, 8, none⟩ = false := by
        rintro W rfl
        refine HRT.mono ?_
        rintro e w' ⟨rfl, h7⟩
        have D7 : D4 w w' p B s5 := D6.out.up (bel_le h7 D6.out.lt)
        have E7 := (h7.block b8 (Array.getElem?_eq_some_iff.1 E6.out).1).trans E6.out
        refine ⟨rfl, D7, h7, ?_, frozen_of_row _ _ _ _ _ D7.at2, ?_, frozen_of_row _ _ _ _ _ D7.at2, ?_, frozen_of_row _ _ _ _ _ D7.at2, ?_, frozen_of_row _ _ _ _ _ D7.at2, ?_, frozen_of_row _ _ _ _ _ D7.at2, ?_, frozen_of_row _ _ _ _ _ D7.at2, ?_, frozen_of_row _ _ _ _ _ D7.at2, ?_, frozen_of_row _ _ _ _ _ D7.at2, ?_, frozen_of_row _ _ _ _ _ D7.at2⟩
        · rw [cell_of_row _ _ _ _ _ _ D7.at2]; rfl
        · rw [cell_of_row _ _ _ _ _ _ D7.at2]; rfl
        · rw [cell_of_row _ _ _ _ _ _ D7.at2]; rfl
        · rw [cell_of_row _ _ _ _ _ _ D7.at2]; rfl
        · rw [cell_of_row _ _ _ _ _ _ D7.at2]; rfl
        · rw [cell_of_row _ _ _ _ _ _ D7.at2]; rfl
        · rw [cell_of_row _ _ _ _ _ _ D7.at2]; rfl
        · rw [cell_of_row _ _ _ _ _ _ D7.at2]; rfl
        · rw [cell_of_row _ _ _ _ _ _ D7.at2]; rfl
      clear HRT
      go_wp2_with (first | (go_at_call 37; refine (HR7 _ rfl).mono ?_; rintro e w7 ⟨rfl, D7, B7, u0, v0, u1, v1, u2, v2, u3, v3, u4, v4, u5, v5, u6, v6, u7, v7, u8, v8⟩))
      refine bodyPost_ret (results_row2 rfl _ _ w.heap.size 49 _ (0, 0) _ rfl (row9 D7.out.at2 _ _ _ _ _ _ _ _ _) Tryz.underlying49 rfl (by kernel_rfl)) rfl ?_
      rw [← HSS.out]
      exact DecSays.no (bel9 D7.out.bel (Nat.le_refl _) _ _ _ _ _ _ _ _ _) (dec_none2 HD.out HR.out)
    | true =>
      rw [hr] at HRT
      have HR : Hid (right ⟨3, a, b, [], [], n4, n5, 0, []⟩ = true) := hr
      clear hr
      have HR7 : ∀ W, W = w6 → Calls Tryz.prog 37 #[.agg #[.int .i64 3, .int .i64 a, .int .i64 b, .slice none 0 0, .slice none 0 0, .int .i64 n4, .int .i64 n5, .int .i64 0, .slice none 0 0]] W fun e w' => e = .returned (.bool true) ∧ Hid (D4 w w' p B s5) ∧ Hid (Below w6.heap.size w6 w') ∧ w'.cell? ⟨w.heap.size, 0, none⟩ = some (.int .i64 0) ∧ w'.frozen? ⟨w.heap.size, 0, none⟩ = false ∧ w'.cell? ⟨w.heap.size, 1, none⟩ = some (.int .i64 0) ∧ w'.frozen? ⟨w.heap.size, 1, none⟩ = false ∧ w'.cell? ⟨w.heap.size, 2, none⟩ = some (.int .i64 0) ∧ w'.frozen? ⟨w.heap.size, 2, none⟩ = false ∧ w'.cell? ⟨w.heap.size, 3, none⟩ = some (.slice none 0 0) ∧ w'.frozen? ⟨w.heap.size, 3, none⟩ = false ∧ w'.cell? ⟨w.heap.size, 4, none⟩ = some (.slice none 0 0) ∧ w'.frozen? ⟨w.heap.size, 4, none⟩ = false ∧ w'.cell? ⟨w.heap.size, 5, none⟩ = some (.int .i64 0) ∧ w'.frozen? ⟨w.heap.size, 5, none⟩ = false ∧ w'.cell? ⟨w.heap.size, 6, none⟩ = some (.int .i64 0) ∧ w'.frozen? ⟨w.heap.size, 6, none⟩ = false ∧ w'.cell? ⟨w.heap.size, 7, none⟩ = some (.int .i64 0) ∧ w'.frozen? ⟨w.heap.size, 7, none⟩ = false ∧ w'.cell? ⟨w.heap.size, 8, none⟩ = some (.slice none 0 0) ∧ w'.frozen? ⟨w.heap.size, 8, none⟩ = false ∧ w'.cell? ⟨b8, 0, none⟩ = some (.int .i64 3) ∧ w'.cell? ⟨b8, 1, none⟩ = some (.int .i64 a) ∧ w'.cell? ⟨b8, 2, none⟩ = some (.int .i64 b) ∧ w'.cell? ⟨b8, 3, none⟩ = some (.slice none 0 0) ∧ w'.cell? ⟨b8, 4, none⟩ = some (.slice none 0 0) ∧ w'.cell? ⟨b8, 5, none⟩ = some (.int .i64 n4) ∧ w'.cell? ⟨b8, 6, none⟩ = some (.int .i64 n5) ∧ w'.cell? ⟨b8, 7, none⟩ = some (.int .i64 0) ∧ w'.cell? ⟨b8, 8, none⟩ = some (.slice none 0 0) := by
        rintro W rfl
        refine HRT.mono ?_
        rintro e w' ⟨rfl, h7⟩
        have D7 : D4 w w' p B s5 := D6.out.up (bel_le h7 D6.out.lt)
        have E7 := (h7.block b8 (Array.getElem?_eq_some_iff.1 E6.out).1).trans E6.out
        refine ⟨rfl, D7, h7, ?_, frozen_of_row _ _ _ _ _ D7.at2, ?_, frozen_of_row _ _ _ _ _ D7.at2, ?_, frozen_of_row _ _ _ _ _ D7.at2, ?_, frozen_of_row _ _ _ _ _ D7.at2, ?_, frozen_of_row _ _ _ _ _ D7.at2, ?_, frozen_of_row _ _ _ _ _ D7.at2, ?_, frozen_of_row _ _ _ _ _ D7.at2, ?_, frozen_of_row _ _ _ _ _ D7.at2, ?_, frozen_of_row _ _ _ _ _ D7.at2, ?_, ?_, ?_, ?_, ?_, ?_, ?_, ?_, ?_⟩
        · rw [cell_of_row _ _ _ _ _ _ D7.at2]; rfl
        · rw [cell_of_row _ _ _ _ _ _ D7.at2]; rfl
        · rw [cell_of_row _ _ _ _ _ _ D7.at2]; rfl
        · rw [cell_of_row _ _ _ _ _ _ D7.at2]; rfl
        · rw [cell_of_row _ _ _ _ _ _ D7.at2]; rfl
        · rw [cell_of_row _ _ _ _ _ _ D7.at2]; rfl
        · rw [cell_of_row _ _ _ _ _ _ D7.at2]; rfl
        · rw [cell_of_row _ _ _ _ _ _ D7.at2]; rfl
        · rw [cell_of_row _ _ _ _ _ _ D7.at2]; rfl
        · rw [cell_of_row _ _ _ _ _ _ E7]; rfl
        · rw [cell_of_row _ _ _ _ _ _ E7]; rfl
        · rw [cell_of_row _ _ _ _ _ _ E7]; rfl
        · rw [cell_of_row _ _ _ _ _ _ E7]; rfl
        · rw [cell_of_row _ _ _ _ _ _ E7]; rfl
        · rw [cell_of_row _ _ _ _ _ _ E7]; rfl
        · rw [cell_of_row _ _ _ _ _ _ E7]; rfl
        · rw [cell_of_row _ _ _ _ _ _ E7]; rfl
        · rw [cell_of_row _ _ _ _ _ _ E7]; rfl
      clear HRT
      go_wp2_with (first | (go_at_call 37; refine (HR7 _ rfl).mono ?_; rintro e w7 ⟨rfl, D7, B7, u0, v0, u1, v1, u2, v2, u3, v3, u4, v4, u5, v5, u6, v6, u7, v7, u8, v8, z0, z1, z2, z3, z4, z5, z6, z7, z8⟩))
      refine bodyPost_ret (results_row2 rfl _ _ w.heap.size 49 _ (0, 0) _ rfl (row9 D7.out.at2 _ _ _ _ _ _ _ _ _) Tryz.underlying49 rfl (by kernel_rfl)) rfl ?_
      rw [← HSS.out]
      exact DecSays.yes (bel9 D7.out.bel (Nat.le_refl _) _ _ _ _ _ _ _ _ _) (dec_some HD.out HEN.out HR.out) ((EN6.out.agree (Agree.below B7.out)).last (only9 _ _ _ _ _ _ _ _ _ _ _))
end Go.Proofs.YtfjdaafckiefdaaGreatDoor.E9
/- The walk of Decode where the kind is 4. -/
namespace Go.Proofs.YtfjdaafckiefdaaGreatDoor.E9
open Go.RowKit C8
set_option maxHeartbeats 4000000 in
theorem dk4 (sv : Value) (l : List Nat) (w : World) (hs : Src w sv l) (hl : l.length ≤ 900000) (a b : Int) (s1 s2 s3 : Sta) (H1 : Hid (rN 0 1099511627776 (l, false) = (4, s1))) (H2 : Hid (rN 1 16 s1 = (a, s2))) (H3 : Hid (rN 0 1099511627776 s2 = (b, s3)))  (n4 : Int) (s4 : Sta) (H4 : Hid (rN 1 16 s3 = (n4, s4))) (en : Bool) (HEN : Hid ((!s4.2 && decide (s4.1 = [])) = en)) :
    Calls Tryz.prog 68 #[sv] w fun e w' => DecSays l w e w' := by
  have HD : Hid (decE false (l, false) = (⟨4, a, b, [], [], n4, 0, 0, []⟩, s4)) := by
    show _ = _
    rw [decE_hd H1.out H2.out H3.out]
    unfold tl
    rw [if_neg (by decide : ¬ (4 : Int) = 1), if_neg (by decide : ¬ (4 : Int) = 2), if_neg (by decide : ¬ (4 : Int) = 3), if_pos rfl]
    simp [H4.out]
  have HRD : ∀ W, Hid (Below w.heap.size w W) → Calls Tryz.prog 46 #[sv] W fun e w' => ∃ p, e = .returned (.pointer (some ⟨p, 0, none⟩)) ∧ Hid (RdS w' p W.heap.size w'.heap.size (l, false)) ∧ Hid (W.heap.size ≤ p ∧ p < w'.heap.size) ∧ Hid (Below W.heap.size W w') := fun W hW => (read_any sv l W (hs.below hW.out) hl).mono (by
    rintro e w' ⟨p, rfl, h1, h2, h3, h4⟩
    exact ⟨p, rfl, h1, ⟨h2, h3⟩, h4⟩)
  obtain ⟨sq, sc, rfl, -⟩ := hs.slice
  generalize l.length = ln at *
  clear hs hl
  have HB0 : Hid (∀ o, Below w.heap.size w (w.alloc o)) := fun o => bel_alloc (Nat.le_refl _) o
  obtain ⟨S, HSS⟩ : ∃ S, Hid (DecSays l w = S) := ⟨_, rfl⟩
  rw [HSS.out]
  go_enter Tryz.func68, Tryz.ntmps68
  go_wp2_with (first
    | (go_at_call 46; refine (HRD _ (HB0.out _)).mono ?_; rintro e w1 ⟨p, rfl, R1, P1, B1⟩; clear HRD))
  have D1 : Hid (D4 w (w1.alloc (.cells #[.pointer (some ⟨p, 0, none⟩)] 81)) p w1.heap.size (l, false)) := D4.start B1.out R1.out P1.out.1 P1.out.2
  clear R1 P1 B1 HB0
  generalize w1.alloc (.cells #[.pointer (some ⟨p, 0, none⟩)] 81) = W1 at *
  generalize w1.heap.size = B at *
  go_wp2_with (first
    | (go_at_call 111; refine (c28 (by assumption) (by assumption)).mono ?_; rintro e w2 ⟨rfl, D2, O2⟩)
    | (go_at_call 112; refine (c30 (by assumption) (by assumption)).mono ?_; rintro e w3 ⟨rfl, D3, O3⟩))
  have D8 : Hid (D4 w (w2.alloc (.cells #[.int .i64 4, .int .i64 a, .int .i64 b, .slice none 0 0, .slice none 0 0, .int .i64 0, .int .i64 0, .int .i64 0, .slice none 0 0] 49)) p B s3) := D2.out.up (bel_alloc D2.out.lt _)
  have E8 : Hid ((w2.alloc (.cells #[.int .i64 4, .int .i64 a, .int .i64 b, .slice none 0 0, .slice none 0 0, .int .i64 0, .int .i64 0, .int .i64 0, .slice none 0 0] 49)).heap[w2.heap.size]? = some (.cells #[.int .i64 4, .int .i64 a, .int .i64 b, .slice none 0 0, .slice none 0 0, .int .i64 0, .int .i64 0, .int .i64 0, .slice none 0 0] 49 (0, 0))) := heap_alloc_new w2 _
  have L8 : Hid (B + 1 ≤ w2.heap.size ∧ p < w2.heap.size) := ⟨D2.out.lt, Nat.lt_trans D2.out.hi D2.out.lt⟩
  clear D1 D2 D3 O2 O3
  generalize w2.alloc (.cells #[.int .i64 4, .int .i64 a, .int .i64 b, .slice none 0 0, .slice none 0 0, .int .i64 0, .int .i64 0, .int .i64 0, .slice none 0 0] 49) = W8 at *
  generalize w2.heap.size = b8 at *
  refine (c30 D8 H4).mono ?_
  rintro e w25 ⟨rfl, D25, O25⟩
  have E25 : Hid (w25.heap[b8]? = some (.cells #[.int .i64 4, .int .i64 a, .int .i64 b, .slice none 0 0, .slice none 0 0, .int .i64 0, .int .i64 0, .int .i64 0, .slice none 0 0] 49 (0, 0))) := (O25.out.block b8 (Array.getElem?_eq_some_iff.1 E8.out).1 (by have := L8.out; simp; omega)).trans E8.out
  have d5 : w25.cell? ⟨b8, 5, none⟩ = some (.int .i64 0) := by rw [cell_of_row _ _ _ _ _ _ E25.out]; rfl
  have f5 : w25.frozen? ⟨b8, 5, none⟩ = false := frozen_of_row _ _ _ _ _ E25.out
  have c4 := D25.out.c4
  go_wp2_with fail
  have E9_5 : (w25.setCell ⟨b8, 5, none⟩ (.int .i64 n4)).heap[b8]? = some (.cells #[.int .i64 4, .int .i64 a, .int .i64 b, .slice none 0 0, .slice none 0 0, .int .i64 n4, .int .i64 0, .int .i64 0, .slice none 0 0] 49 (0, 0)) := heap_setCell_same _ b8 5 _ 49 _ E25.out
  have D6 : Hid (D4 w (w25.setCell ⟨b8, 5, none⟩ (.int .i64 n4)) p B s4) := D25.out.up ((Below.refl _ _).setCell (p := ⟨b8, 5, none⟩) L8.out.1 _)
  have E6 : Hid ((w25.setCell ⟨b8, 5, none⟩ (.int .i64 n4)).heap[b8]? = some (.cells #[.int .i64 4, .int .i64 a, .int .i64 b, .slice none 0 0, .slice none 0 0, .int .i64 n4, .int .i64 0, .int .i64 0, .slice none 0 0] 49 (0, 0))) := E9_5
  clear E9_5 d5 f5 D25 E25 O25 D8 E8 c4
  generalize (w25.setCell ⟨b8, 5, none⟩ (.int .i64 n4)) = w6 at *
  have EN6 : Hid (EnNew (w.heap.size + 1) w6 (.agg #[.int .i64 4, .int .i64 a, .int .i64 b, .slice none 0 0, .slice none 0 0, .int .i64 n4, .int .i64 0, .int .i64 0, .slice none 0 0]) ⟨4, a, b, [], [], n4, 0, 0, []⟩) := fun w2 _ => ⟨none, 0, none, 0, none, 0, rfl, Src.nil _, Src.nil _, WrRow.nil _ _, (by simp), (by simp), by simp⟩
  refine (c33 D6 HEN).mono ?_
  rintro e _ ⟨rfl, rfl⟩
  have x0 : w6.cell? ⟨w.heap.size, 0, none⟩ = some (.int .i64 0) := by rw [cell_of_row _ _ _ _ _ _ D6.out.at2]; rfl
  have y0 : w6.frozen? ⟨w.heap.size, 0, none⟩ = false := frozen_of_row _ _ _ _ _ D6.out.at2
  have x1 : w6.cell? ⟨w.heap.size, 1, none⟩ = some (.int .i64 0) := by rw [cell_of_row _ _ _ _ _ _ D6.out.at2]; rfl
  have y1 : w6.frozen? ⟨w.heap.size, 1, none⟩ = false := frozen_of_row _ _ _ _ _ D6.out.at2
  have x2 : w6.cell? ⟨w.heap.size, 2, none⟩ = some (.int .i64 0) := by rw [cell_of_row _ _ _ _ _ _ D6.out.at2]; rfl
  have y2 : w6.frozen? ⟨w.heap.size, 2, none⟩ = false := frozen_of_row _ _ _ _ _ D6.out.at2
  have x3 : w6.cell? ⟨w.heap.size, 3, none⟩ = some (.slice none 0 0) := by rw [cell_of_row _ _ _ _ _ _ D6.out.at2]; rfl
  have y3 : w6.frozen? ⟨w.heap.size, 3, none⟩ = false := frozen_of_row _ _ _ _ _ D6.out.at2
  have x4 : w6.cell? ⟨w.heap.size, 4, none⟩ = some (.slice none 0 0) := by rw [cell_of_row _ _ _ _ _ _ D6.out.at2]; rfl
  have y4 : w6.frozen? ⟨w.heap.size, 4, none⟩ = false := frozen_of_row _ _ _ _ _ D6.out.at2
  have x5 : w6.cell? ⟨w.heap.size, 5, none⟩ = some (.int .i64 0) := by rw [cell_of_row _ _ _ _ _ _ D6.out.at2]; rfl
  have y5 : w6.frozen? ⟨w.heap.size, 5, none⟩ = false := frozen_of_row _ _ _ _ _ D6.out.at2
  have x6 : w6.cell? ⟨w.heap.size, 6, none⟩ = some (.int .i64 0) := by rw [cell_of_row _ _ _ _ _ _ D6.out.at2]; rfl
  have y6 : w6.frozen? ⟨w.heap.size, 6, none⟩ = false := frozen_of_row _ _ _ _ _ D6.out.at2
  have x7 : w6.cell? ⟨w.heap.size, 7, none⟩ = some (.int .i64 0) := by rw [cell_of_row _ _ _ _ _ _ D6.out.at2]; rfl
  have y7 : w6.frozen? ⟨w.heap.size, 7, none⟩ = false := frozen_of_row _ _ _ _ _ D6.out.at2
  have x8 : w6.cell? ⟨w.heap.size, 8, none⟩ = some (.slice none 0 0) := by rw [cell_of_row _ _ _ _ _ _ D6.out.at2]; rfl
  have y8 : w6.frozen? ⟨w.heap.size, 8, none⟩ = false := frozen_of_row _ _ _ _ _ D6.out.at2
  cases en with
  | false =>
    go_wp2_with fail
    refine bodyPost_ret (results_row2 rfl _ _ w.heap.size 49 _ (0, 0) _ rfl (row9 D6.out.at2 _ _ _ _ _ _ _ _ _) Tryz.underlying49 rfl (by kernel_rfl)) rfl ?_
    rw [← HSS.out]
    exact DecSays.no (bel9 D6.out.bel (Nat.le_refl _) _ _ _ _ _ _ _ _ _) (dec_none1 HD.out HEN.out)
  | true =>
    have d0 : w6.cell? ⟨b8, 0, none⟩ = some (.int .i64 4) := by rw [cell_of_row _ _ _ _ _ _ E6.out]; rfl
    have d1 : w6.cell? ⟨b8, 1, none⟩ = some (.int .i64 a) := by rw [cell_of_row _ _ _ _ _ _ E6.out]; rfl
    have d2 : w6.cell? ⟨b8, 2, none⟩ = some (.int .i64 b) := by rw [cell_of_row _ _ _ _ _ _ E6.out]; rfl
    have d3 : w6.cell? ⟨b8, 3, none⟩ = some (.slice none 0 0) := by rw [cell_of_row _ _ _ _ _ _ E6.out]; rfl
    have d4 : w6.cell? ⟨b8, 4, none⟩ = some (.slice none 0 0) := by rw [cell_of_row _ _ _ _ _ _ E6.out]; rfl
    have d5 : w6.cell? ⟨b8, 5, none⟩ = some (.int .i64 n4) := by rw [cell_of_row _ _ _ _ _ _ E6.out]; rfl
    have d6 : w6.cell? ⟨b8, 6, none⟩ = some (.int .i64 0) := by rw [cell_of_row _ _ _ _ _ _ E6.out]; rfl
    have d7 : w6.cell? ⟨b8, 7, none⟩ = some (.int .i64 0) := by rw [cell_of_row _ _ _ _ _ _ E6.out]; rfl
    have d8 : w6.cell? ⟨b8, 8, none⟩ = some (.slice none 0 0) := by rw [cell_of_row _ _ _ _ _ _ E6.out]; rfl
    have HRT := Right_any ⟨4, a, b, [], [], n4, 0, 0, []⟩ _ w6 EN6.out.is
    cases hr : right ⟨4, a, b, [], [], n4, 0, 0, []⟩ with
    | false =>
      rw [hr] at HRT
      have HR : Hid (right ⟨4, a, b, [], [], n4, 0, 0, []⟩ = false) := hr
      clear hr
      have HR7 : ∀ W, W = w6 → Calls Tryz.prog 37 #[.agg #[.int .i64 4, .int .i64 a, .int .i64 b, .slice none 0 0, .slice none 0 0, .int .i64 n4, .int .i64 0, .int .i64 0, .slice none 0 0]] W fun e w' => e = .returned (.bool false) ∧ Hid (D4 w w' p B s4) ∧ Hid (Below w6.heap.size w6 w') ∧ w'.cell? ⟨w.heap.size, 0, none⟩ = some (.int .i64 0) ∧ w'.frozen? ⟨w.heap.size, 0, none⟩ = false ∧ w'.cell? ⟨w.heap.size, 1, none⟩ = some (.int .i64 0) ∧ w'.frozen? ⟨w.heap.size, 1, none⟩ = false ∧ w'.cell? ⟨w.heap.size, 2, none⟩ = some (.int .i64 0) ∧ w'.frozen? ⟨w.heap.size, 2, none⟩ = false ∧ w'.cell? ⟨w.heap.size, 3, none⟩ = some (.slice none 0 0) ∧ w'.frozen? ⟨w.heap.size, 3, none⟩ = false ∧ w'.cell? ⟨w.heap.size, 4, none⟩ = some (.slice none 0 0) ∧ w'.frozen? ⟨w.heap.size, 4, none⟩ = false ∧ w'.cell? ⟨w.heap.size, 5, none⟩ = some (.int .i64 0) ∧ w'.frozen? ⟨w.heap.size, 5, none⟩ = false ∧ w'.cell? ⟨w.heap.size, 6, none⟩ = some (.int .i64 0) ∧ w'.frozen? ⟨w.heap.size, 6, none⟩ = false ∧ w'.cell? ⟨w.heap.size, 7, none⟩ = some (.int .i64 0) ∧ w'.frozen? ⟨w.heap.size, 7, none⟩ = false ∧ w'.cell? ⟨w.heap.size, 8, none⟩ = some (.slice none 0 0) ∧ w'.frozen? ⟨w.heap.size, 8, none⟩ = false := by
        rintro W rfl
        refine HRT.mono ?_
        rintro e w' ⟨rfl, h7⟩
        have D7 : D4 w w' p B s4 := D6.out.up (bel_le h7 D6.out.lt)
        have E7 := (h7.block b8 (Array.getElem?_eq_some_iff.1 E6.out).1).trans E6.out
        refine ⟨rfl, D7, h7, ?_, frozen_of_row _ _ _ _ _ D7.at2, ?_, frozen_of_row _ _ _ _ _ D7.at2, ?_, frozen_of_row _ _ _ _ _ D7.at2, ?_, frozen_of_row _ _ _ _ _ D7.at2, ?_, frozen_of_row _ _ _ _ _ D7.at2, ?_, frozen_of_row _ _ _ _ _ D7.at2, ?_, frozen_of_row _ _ _ _ _ D7.at2, ?_, frozen_of_row _ _ _ _ _ D7.at2, ?_, frozen_of_row _ _ _ _ _ D7.at2⟩
        · rw [cell_of_row _ _ _ _ _ _ D7.at2]; rfl
        · rw [cell_of_row _ _ _ _ _ _ D7.at2]; rfl
        · rw [cell_of_row _ _ _ _ _ _ D7.at2]; rfl
        · rw [cell_of_row _ _ _ _ _ _ D7.at2]; rfl
        · rw [cell_of_row _ _ _ _ _ _ D7.at2]; rfl
        · rw [cell_of_row _ _ _ _ _ _ D7.at2]; rfl
        · rw [cell_of_row _ _ _ _ _ _ D7.at2]; rfl
        · rw [cell_of_row _ _ _ _ _ _ D7.at2]; rfl
        · rw [cell_of_row _ _ _ _ _ _ D7.at2]; rfl
      clear HRT
      go_wp2_with (first | (go_at_call 37; refine (HR7 _ rfl).mono ?_; rintro e w7 ⟨rfl, D7, B7, u0, v0, u1, v1, u2, v2, u3, v3, u4, v4, u5, v5, u6, v6, u7, v7, u8, v8⟩))
      refine bodyPost_ret (results_row2 rfl _ _ w.heap.size 49 _ (0, 0) _ rfl (row9 D7.out.at2 _ _ _ _ _ _ _ _ _) Tryz.underlying49 rfl (by kernel_rfl)) rfl ?_
      rw [← HSS.out]
      exact DecSays.no (bel9 D7.out.bel (Nat.le_refl _) _ _ _ _ _ _ _ _ _) (dec_none2 HD.out HR.out)
    | true =>
      rw [hr] at HRT
      have HR : Hid (right ⟨4, a, b, [], [], n4, 0, 0, []⟩ = true) := hr
      clear hr
      have HR7 : ∀ W, W = w6 → Calls Tryz.prog 37 #[.agg #[.int .i64 4, .int .i64 a, .int .i64 b, .slice none 0 0, .slice none 0 0, .int .i64 n4, .int .i64 0, .int .i64 0, .slice none 0 0]] W fun e w' => e = .returned (.bool true) ∧ Hid (D4 w w' p B s4) ∧ Hid (Below w6.heap.size w6 w') ∧ w'.cell? ⟨w.heap.size, 0, none⟩ = some (.int .i64 0) ∧ w'.frozen? ⟨w.heap.size, 0, none⟩ = false ∧ w'.cell? ⟨w.heap.size, 1, none⟩ = some (.int .i64 0) ∧ w'.frozen? ⟨w.heap.size, 1, none⟩ = false ∧ w'.cell? ⟨w.heap.size, 2, none⟩ = some (.int .i64 0) ∧ w'.frozen? ⟨w.heap.size, 2, none⟩ = false ∧ w'.cell? ⟨w.heap.size, 3, none⟩ = some (.slice none 0 0) ∧ w'.frozen? ⟨w.heap.size, 3, none⟩ = false ∧ w'.cell? ⟨w.heap.size, 4, none⟩ = some (.slice none 0 0) ∧ w'.frozen? ⟨w.heap.size, 4, none⟩ = false ∧ w'.cell? ⟨w.heap.size, 5, none⟩ = some (.int .i64 0) ∧ w'.frozen? ⟨w.heap.size, 5, none⟩ = false ∧ w'.cell? ⟨w.heap.size, 6, none⟩ = some (.int .i64 0) ∧ w'.frozen? ⟨w.heap.size, 6, none⟩ = false ∧ w'.cell? ⟨w.heap.size, 7, none⟩ = some (.int .i64 0) ∧ w'.frozen? ⟨w.heap.size, 7, none⟩ = false ∧ w'.cell? ⟨w.heap.size, 8, none⟩ = some (.slice none 0 0) ∧ w'.frozen? ⟨w.heap.size, 8, none⟩ = false ∧ w'.cell? ⟨b8, 0, none⟩ = some (.int .i64 4) ∧ w'.cell? ⟨b8, 1, none⟩ = some (.int .i64 a) ∧ w'.cell? ⟨b8, 2, none⟩ = some (.int .i64 b) ∧ w'.cell? ⟨b8, 3, none⟩ = some (.slice none 0 0) ∧ w'.cell? ⟨b8, 4, none⟩ = some (.slice none 0 0) ∧ w'.cell? ⟨b8, 5, none⟩ = some (.int .i64 n4) ∧ w'.cell? ⟨b8, 6, none⟩ = some (.int .i64 0) ∧ w'.cell? ⟨b8, 7, none⟩ = some (.int .i64 0) ∧ w'.cell? ⟨b8, 8, none⟩ = some (.slice none 0 0) := by
        rintro W rfl
        refine HRT.mono ?_
        rintro e w' ⟨rfl, h7⟩
        have D7 : D4 w w' p B s4 := D6.out.up (bel_le h7 D6.out.lt)
        have E7 := (h7.block b8 (Array.getElem?_eq_some_iff.1 E6.out).1).trans E6.out
        refine ⟨rfl, D7, h7, ?_, frozen_of_row _ _ _ _ _ D7.at2, ?_, frozen_of_row _ _ _ _ _ D7.at2, ?_, frozen_of_row _ _ _ _ _ D7.at2, ?_, frozen_of_row _ _ _ _ _ D7.at2, ?_, frozen_of_row _ _ _ _ _ D7.at2, ?_, frozen_of_row _ _ _ _ _ D7.at2, ?_, frozen_of_row _ _ _ _ _ D7.at2, ?_, frozen_of_row _ _ _ _ _ D7.at2, ?_, frozen_of_row _ _ _ _ _ D7.at2, ?_, ?_, ?_, ?_, ?_, ?_, ?_, ?_, ?_⟩
        · rw [cell_of_row _ _ _ _ _ _ D7.at2]; rfl
        · rw [cell_of_row _ _ _ _ _ _ D7.at2]; rfl
        · rw [cell_of_row _ _ _ _ _ _ D7.at2]; rfl
        · rw [cell_of_row _ _ _ _ _ _ D7.at2]; rfl
        · rw [cell_of_row _ _ _ _ _ _ D7.at2]; rfl
        · rw [cell_of_row _ _ _ _ _ _ D7.at2]; rfl
        · rw [cell_of_row _ _ _ _ _ _ D7.at2]; rfl
        · rw [cell_of_row _ _ _ _ _ _ D7.at2]; rfl
        · rw [cell_of_row _ _ _ _ _ _ D7.at2]; rfl
        · rw [cell_of_row _ _ _ _ _ _ E7]; rfl
        · rw [cell_of_row _ _ _ _ _ _ E7]; rfl
        · rw [cell_of_row _ _ _ _ _ _ E7]; rfl
        · rw [cell_of_row _ _ _ _ _ _ E7]; rfl
        · rw [cell_of_row _ _ _ _ _ _ E7]; rfl
        · rw [cell_of_row _ _ _ _ _ _ E7]; rfl
        · rw [cell_of_row _ _ _ _ _ _ E7]; rfl
        · rw [cell_of_row _ _ _ _ _ _ E7]; rfl
        · rw [cell_of_row _ _ _ _ _ _ E7]; rfl
      clear HRT
      go_wp2_with (first | (go_at_call 37; refine (HR7 _ rfl).mono ?_; rintro e w7 ⟨rfl, D7, B7, u0, v0, u1, v1, u2, v2, u3, v3, u4, v4, u5, v5, u6, v6, u7, v7, u8, v8, z0, z1, z2, z3, z4, z5, z6, z7, z8⟩))
      refine bodyPost_ret (results_row2 rfl _ _ w.heap.size 49 _ (0, 0) _ rfl (row9 D7.out.at2 _ _ _ _ _ _ _ _ _) Tryz.underlying49 rfl (by kernel_rfl)) rfl ?_
      rw [← HSS.out]
      exact DecSays.yes (bel9 D7.out.bel (Nat.le_refl _) _ _ _ _ _ _ _ _ _) (dec_some HD.out HEN.out HR.out) ((EN6.out.agree (Agree.below B7.out)).last (only9 _ _ _ _ _ _ _ _ _ _ _))
end Go.Proofs.YtfjdaafckiefdaaGreatDoor.E9
/- The walk of Decode where the kind is 5. -/
namespace Go.Proofs.YtfjdaafckiefdaaGreatDoor.E9
open Go.RowKit C8
theorem rW_length {lo hi : Int} {s : Sta} : ∀ n, (rW lo hi n s).1.length = n
  | 0 => rfl
  | n + 1 => by rw [rW, List.length_append, rW_length n]; rfl
theorem rotR_row {w : World} {p B b8 : Nat} {CE : Value → Array Value} {sl : Value} {s s' s'' : Sta} {j : Nat} {xs : List Value} {ws ws' : List (Int × List Nat)} {k : Nat} {v : Value} {u : World} (hk : k ≤ 2) (h : RotR w p B b8 CE sl s s' s'' j xs ws ws' k v u) : u.heap[b8]? = some (.cells (CE sl) 49 (0, 0)) := by
  match k, hk, h with
  | 0, _, h => exact h.2.1
  | 1, _, h => exact h.2.1
  | 2, _, h => exact h.2.1
theorem rot_keep {p A B b8 j : Nat} {u u' : World} {c : Array Value} {sl : Value} {xs : List Value} {ws : List (Int × List Nat)} (h1 : u.heap[b8]? = some (.cells c 49 (0, 0))) (h2 : u.ownsRow (b8 + 1) 100 2 sl j xs) (h3 : AreW u p A B xs ws) (ho : Only [p] u u') (hp : p < b8) :
    u'.heap[b8]? = some (.cells c 49 (0, 0)) ∧ u'.ownsRow (b8 + 1) 100 2 sl j xs ∧ AreW u' p A B xs ws :=
  ⟨(ho.block b8 (Array.getElem?_eq_some_iff.1 h1).1 (by simp; omega)).trans h1, own_only h2 ho (own_off h2 (by simp; omega)), h3.turn (fun v t ht => ht.only ho)⟩
theorem frame15 {A F : Array Value} (hs : A.size = 79) (h : ∀ t, [58, 59, 60, 61, 62, 63, 64, 65, 66, 67].contains t = false → A.getD t undef = F.getD t undef) : A = #[F.getD 0 undef, F.getD 1 undef, F.getD 2 undef, F.getD 3 undef, F.getD 4 undef, F.getD 5 undef, F.getD 6 undef, F.getD 7 undef, F.getD 8 undef, F.getD 9 undef, F.getD 10 undef, F.getD 11 undef, F.getD 12 undef, F.getD 13 undef, F.getD 14 undef, F.getD 15 undef, F.getD 16 undef, F.getD 17 undef, F.getD 18 undef, F.getD 19 undef, F.getD 20 undef, F.getD 21 undef, F.getD 22 undef, F.getD 23 undef, F.getD 24 undef, F.getD 25 undef, F.getD 26 undef, F.getD 27 undef, F.getD 28 undef, F.getD 29 undef, F.getD 30 undef, F.getD 31 undef, F.getD 32 undef, F.getD 33 undef, F.getD 34 undef, F.getD 35 undef, F.getD 36 undef, F.getD 37 undef, F.getD 38 undef, F.getD 39 undef, F.getD 40 undef, F.getD 41 undef, F.getD 42 undef, F.getD 43 undef, F.getD 44 undef, F.getD 45 undef, F.getD 46 undef, F.getD 47 undef, F.getD 48 undef, F.getD 49 undef, F.getD 50 undef, F.getD 51 undef, F.getD 52 undef, F.getD 53 undef, F.getD 54 undef, F.getD 55 undef, F.getD 56 undef, F.getD 57 undef, A.getD 58 undef, A.getD 59 undef, A.getD 60 undef, A.getD 61 undef, A.getD 62 undef, A.getD 63 undef, A.getD 64 undef, A.getD 65 undef, A.getD 66 undef, A.getD 67 undef, F.getD 68 undef, F.getD 69 undef, F.getD 70 undef, F.getD 71 undef, F.getD 72 undef, F.getD 73 undef, F.getD 74 undef, F.getD 75 undef, F.getD 76 undef, F.getD 77 undef, F.getD 78 undef] := by
  rw [← h 0 (by decide), ← h 1 (by decide), ← h 2 (by decide), ← h 3 (by decide), ← h 4 (by decide), ← h 5 (by decide), ← h 6 (by decide), ← h 7 (by decide), ← h 8 (by decide), ← h 9 (by decide), ← h 10 (by decide), ← h 11 (by decide), ← h 12 (by decide), ← h 13 (by decide), ← h 14 (by decide), ← h 15 (by decide), ← h 16 (by decide), ← h 17 (by decide), ← h 18 (by decide), ← h 19 (by decide), ← h 20 (by decide), ← h 21 (by decide), ← h 22 (by decide), ← h 23 (by decide), ← h 24 (by decide), ← h 25 (by decide), ← h 26 (by decide), ← h 27 (by decide), ← h 28 (by decide), ← h 29 (by decide), ← h 30 (by decide), ← h 31 (by decide), ← h 32 (by decide), ← h 33 (by decide), ← h 34 (by decide), ← h 35 (by decide), ← h 36 (by decide), ← h 37 (by decide), ← h 38 (by decide), ← h 39 (by decide), ← h 40 (by decide), ← h 41 (by decide), ← h 42 (by decide), ← h 43 (by decide), ← h 44 (by decide), ← h 45 (by decide), ← h 46 (by decide), ← h 47 (by decide), ← h 48 (by decide), ← h 49 (by decide), ← h 50 (by decide), ← h 51 (by decide), ← h 52 (by decide), ← h 53 (by decide), ← h 54 (by decide), ← h 55 (by decide), ← h 56 (by decide), ← h 57 (by decide), ← h 68 (by decide), ← h 69 (by decide), ← h 70 (by decide), ← h 71 (by decide), ← h 72 (by decide), ← h 73 (by decide), ← h 74 (by decide), ← h 75 (by decide), ← h 76 (by decide), ← h 77 (by decide), ← h 78 (by decide)]
  refine Array.ext (by simp [hs]) (fun i h1 h2 => ?_)
  have e : A[i] = A.getD i undef := by simp [h1]
  rw [e]
  rw [hs] at h1
  clear e h hs
  match i, h1 with
  | 0, _ => rfl
  | 1, _ => rfl
  | 2, _ => rfl
  | 3, _ => rfl
  | 4, _ => rfl
  | 5, _ => rfl
  | 6, _ => rfl
  | 7, _ => rfl
  | 8, _ => rfl
  | 9, _ => rfl
  | 10, _ => rfl
  | 11, _ => rfl
  | 12, _ => rfl
  | 13, _ => rfl
  | 14, _ => rfl
  | 15, _ => rfl
  | 16, _ => rfl
  | 17, _ => rfl
  | 18, _ => rfl
  | 19, _ => rfl
  | 20, _ => rfl
  | 21, _ => rfl
  | 22, _ => rfl
  | 23, _ => rfl
  | 24, _ => rfl
  | 25, _ => rfl
  | 26, _ => rfl
  | 27, _ => rfl
  | 28, _ => rfl
  | 29, _ => rfl
  | 30, _ => rfl
  | 31, _ => rfl
  | 32, _ => rfl
  | 33, _ => rfl
  | 34, _ => rfl
  | 35, _ => rfl
  | 36, _ => rfl
  | 37, _ => rfl
  | 38, _ => rfl
  | 39, _ => rfl
  | 40, _ => rfl
  | 41, _ => rfl
  | 42, _ => rfl
  | 43, _ => rfl
  | 44, _ => rfl
  | 45, _ => rfl
  | 46, _ => rfl
  | 47, _ => rfl
  | 48, _ => rfl
  | 49, _ => rfl
  | 50, _ => rfl
  | 51, _ => rfl
  | 52, _ => rfl
  | 53, _ => rfl
  | 54, _ => rfl
  | 55, _ => rfl
  | 56, _ => rfl
  | 57, _ => rfl
  | 58, _ => rfl
  | 59, _ => rfl
  | 60, _ => rfl
  | 61, _ => rfl
  | 62, _ => rfl
  | 63, _ => rfl
  | 64, _ => rfl
  | 65, _ => rfl
  | 66, _ => rfl
  | 67, _ => rfl
  | 68, _ => rfl
  | 69, _ => rfl
  | 70, _ => rfl
  | 71, _ => rfl
  | 72, _ => rfl
  | 73, _ => rfl
  | 74, _ => rfl
  | 75, _ => rfl
  | 76, _ => rfl
  | 77, _ => rfl
  | 78, _ => rfl
  | _ + 79, h => exact absurd h (by omega)
set_option maxHeartbeats 4000000 in
theorem dk5 (sv : Value) (l : List Nat) (w : World) (hs : Src w sv l) (hl : l.length ≤ 900000) (a b : Int) (s1 s2 s3 : Sta) (H1 : Hid (rN 0 1099511627776 (l, false) = (5, s1))) (H2 : Hid (rN 1 16 s1 = (a, s2))) (H3 : Hid (rN 0 1099511627776 s2 = (b, s3)))  (ep : Int) (s4 s5 : Sta) (cn : Nat) (H4 : Hid (rN 0 1099511627776 s3 = (ep, s4))) (H5 : Hid (rN 0 16 s4 = ((cn : Int), s5))) (hcn : cn ≤ 16) (ws : List (Int × List Nat)) (sE : Sta) (HW : Hid (rW 0 4096 cn s5 = (ws, sE))) (en : Bool) (HEN : Hid ((!sE.2 && decide (sE.1 = [])) = en)) :
    Calls Tryz.prog 68 #[sv] w fun e w' => DecSays l w e w' := by
  have HD : Hid (decE false (l, false) = (⟨5, a, b, [], [], 0, 0, ep, ws⟩, sE)) := by
    show _ = _
    rw [decE_hd H1.out H2.out H3.out]
    unfold tl
    rw [if_neg (by decide : ¬ (5 : Int) = 1), if_neg (by decide : ¬ (5 : Int) = 2), if_neg (by decide : ¬ (5 : Int) = 3), if_neg (by decide : ¬ (5 : Int) = 4), if_pos rfl]
    simp [lo1, hiE, loB, hiB, H4.out, H5.out, HW.out]
  have HRD : ∀ W, Hid (Below w.heap.size w W) → Calls Tryz.prog 46 #[sv] W fun e w' => ∃ p, e = .returned (.pointer (some ⟨p, 0, none⟩)) ∧ Hid (RdS w' p W.heap.size w'.heap.size (l, false)) ∧ Hid (W.heap.size ≤ p ∧ p < w'.heap.size) ∧ Hid (Below W.heap.size W w') := fun W hW => (read_any sv l W (hs.below hW.out) hl).mono (by
    rintro e w' ⟨p, rfl, h1, h2, h3, h4⟩
    exact ⟨p, rfl, h1, ⟨h2, h3⟩, h4⟩)
  obtain ⟨sq, sc, rfl, -⟩ := hs.slice
  generalize l.length = ln at *
  clear hs hl
  have HB0 : Hid (∀ o, Below w.heap.size w (w.alloc o)) := fun o => bel_alloc (Nat.le_refl _) o
  obtain ⟨S, HSS⟩ : ∃ S, Hid (DecSays l w = S) := ⟨_, rfl⟩
  rw [HSS.out]
  go_enter Tryz.func68, Tryz.ntmps68
  go_wp2_with (first
    | (go_at_call 46; refine (HRD _ (HB0.out _)).mono ?_; rintro e w1 ⟨p, rfl, R1, P1, B1⟩; clear HRD))
  have D1 : Hid (D4 w (w1.alloc (.cells #[.pointer (some ⟨p, 0, none⟩)] 81)) p w1.heap.size (l, false)) := D4.start B1.out R1.out P1.out.1 P1.out.2
  clear R1 P1 B1 HB0
  generalize w1.alloc (.cells #[.pointer (some ⟨p, 0, none⟩)] 81) = W1 at *
  generalize w1.heap.size = B at *
  go_wp2_with (first
    | (go_at_call 111; refine (c28 (by assumption) (by assumption)).mono ?_; rintro e w2 ⟨rfl, D2, O2⟩)
    | (go_at_call 112; refine (c30 (by assumption) (by assumption)).mono ?_; rintro e w3 ⟨rfl, D3, O3⟩))
  have D8 : Hid (D4 w (w2.alloc (.cells #[.int .i64 5, .int .i64 a, .int .i64 b, .slice none 0 0, .slice none 0 0, .int .i64 0, .int .i64 0, .int .i64 0, .slice none 0 0] 49)) p B s3) := D2.out.up (bel_alloc D2.out.lt _)
  have E8 : Hid ((w2.alloc (.cells #[.int .i64 5, .int .i64 a, .int .i64 b, .slice none 0 0, .slice none 0 0, .int .i64 0, .int .i64 0, .int .i64 0, .slice none 0 0] 49)).heap[w2.heap.size]? = some (.cells #[.int .i64 5, .int .i64 a, .int .i64 b, .slice none 0 0, .slice none 0 0, .int .i64 0, .int .i64 0, .int .i64 0, .slice none 0 0] 49 (0, 0))) := heap_alloc_new w2 _
  have L8 : Hid (B + 1 ≤ w2.heap.size ∧ p < w2.heap.size) := ⟨D2.out.lt, Nat.lt_trans D2.out.hi D2.out.lt⟩
  clear D1 D2 D3 O2 O3
  generalize w2.alloc (.cells #[.int .i64 5, .int .i64 a, .int .i64 b, .slice none 0 0, .slice none 0 0, .int .i64 0, .int .i64 0, .int .i64 0, .slice none 0 0] 49) = W8 at *
  generalize w2.heap.size = b8 at *
  refine (c28 D8 H4).mono ?_
  rintro e w25 ⟨rfl, D25, O25⟩
  have E25 : Hid (w25.heap[b8]? = some (.cells #[.int .i64 5, .int .i64 a, .int .i64 b, .slice none 0 0, .slice none 0 0, .int .i64 0, .int .i64 0, .int .i64 0, .slice none 0 0] 49 (0, 0))) := (O25.out.block b8 (Array.getElem?_eq_some_iff.1 E8.out).1 (by have := L8.out; simp; omega)).trans E8.out
  have d7 : w25.cell? ⟨b8, 7, none⟩ = some (.int .i64 0) := by rw [cell_of_row _ _ _ _ _ _ E25.out]; rfl
  have f7 : w25.frozen? ⟨b8, 7, none⟩ = false := frozen_of_row _ _ _ _ _ E25.out
  have c4 := D25.out.c4
  go_wp2_with fail
  have D5 : Hid (D4 w (w25.setCell ⟨b8, 7, none⟩ (.int .i64 ep)) p B s4) := D25.out.up ((Below.refl _ _).setCell (p := ⟨b8, 7, none⟩) L8.out.1 _)
  have E5 : Hid ((w25.setCell ⟨b8, 7, none⟩ (.int .i64 ep)).heap[b8]? = some (.cells #[.int .i64 5, .int .i64 a, .int .i64 b, .slice none 0 0, .slice none 0 0, .int .i64 0, .int .i64 0, .int .i64 ep, .slice none 0 0] 49 (0, 0))) := heap_setCell_same _ b8 7 _ 49 _ E25.out
  clear D8 E8 D25 E25 O25 d7 f7 c4
  generalize (w25.setCell ⟨b8, 7, none⟩ (.int .i64 ep)) = w5 at *
  refine (number_any w5 p (w.heap.size + 1) B s4 s5 0 16 (cn : Int) D5.out.rd H5.out).mono ?_
  rintro e w6 ⟨rfl, r6, o6⟩
  have HI : Hid (∃ sl xs, D4 w w6 p B (rW 0 4096 0 s5).2 ∧ w6.heap[b8]? = some (.cells ((fun x => #[.int .i64 5, .int .i64 a, .int .i64 b, .slice none 0 0, .slice none 0 0, .int .i64 0, .int .i64 0, .int .i64 ep, x]) sl) 49 (0, 0)) ∧ w6.ownsRow (b8 + 1) 100 2 sl 0 xs ∧ AreW w6 p (w.heap.size + 1) B xs (rW 0 4096 0 s5).1) := ⟨_, [], D5.out.read r6 o6, (o6.block b8 (Array.getElem?_eq_some_iff.1 E5.out).1 (by have := L8.out; simp; omega)).trans E5.out, own_none _ _ _ _, trivial⟩
  clear r6 o6 D5 E5
  have cn1 : (cn : Int) ≤ 16 := by omega
  go_wp2_with fail
  go_loopw [56] (fun i wr => ∃ j : Nat, j ≤ cn ∧ i = .int .i64 j ∧ Hid (∃ sl xs, D4 w wr p B (rW 0 4096 j s5).2 ∧ wr.heap[b8]? = some (.cells ((fun x => #[.int .i64 5, .int .i64 a, .int .i64 b, .slice none 0 0, .slice none 0 0, .int .i64 0, .int .i64 0, .int .i64 ep, x]) sl) 49 (0, 0)) ∧ wr.ownsRow (b8 + 1) 100 2 sl j xs ∧ AreW wr p (w.heap.size + 1) B xs (rW 0 4096 j s5).1)) (fun i _ => cn - (intOf i).toNat)
  case atStart => exact ⟨0, by omega, rfl, HI⟩
  case round =>
    obtain ⟨j, hj, rfl, HJ⟩ := hrel
    clear HI
    obtain ⟨sl, xs, DJ, EJ, OJ, AJ⟩ := HJ.out
    obtain ⟨q, c, rfl⟩ := own_slice OJ
    by_cases hlt : j < cn
    · have j1 : (j : Int) < (cn : Int) := by omega
      have j0 : (0 : Int) ≤ (j : Int) := by omega
      obtain ⟨n, s', HA⟩ : ∃ n s', Hid (rN 1 16 (rW 0 4096 j s5).2 = (n, s')) := ⟨_, _, rfl⟩
      obtain ⟨tt, s'', HT⟩ : ∃ tt s'', Hid (rT 0 4096 s' = (tt, s'')) := ⟨_, _, rfl⟩
      have HNX : Hid (rW 0 4096 (j + 1) s5 = ((rW 0 4096 j s5).1 ++ [(n, tt)], s'')) := by
        show _ = _
        rw [rW, HA.out]
        simp only
        rw [HT.out]
      obtain ⟨wj, sj, HWJ⟩ : ∃ wj sj, Hid (rW 0 4096 j s5 = (wj, sj)) := ⟨_, _, rfl⟩
      rw [HWJ.out] at DJ AJ HA HNX
      simp only at DJ AJ HA HNX
      have HBS : Hid (∀ x ∈ rotB p b8 (.slice q j c), x < wr.heap.size ∧ (x = p ∨ B ≤ x)) := by
        intro x hx
        have hb8 := (Array.getElem?_eq_some_iff.1 EJ).1
        have h8 := L8.out
        unfold rotB at hx
        rcases List.mem_cons.1 hx with rfl | hx
        · exact ⟨by omega, .inl rfl⟩
        · rcases List.mem_cons.1 hx with rfl | hx
          · exact ⟨hb8, .inr (by omega)⟩
          · have := OJ.lt x (by simpa using hx)
            exact ⟨this.2, .inr (by omega)⟩
      have HR0 : Hid (∀ x u, Below wr.heap.size wr u → RotR w p B b8 (fun x => #[.int .i64 5, .int .i64 a, .int .i64 b, .slice none 0 0, .slice none 0 0, .int .i64 0, .int .i64 0, .int .i64 ep, x]) (.slice q j c) sj s' s'' j xs wj (wj ++ [(n, tt)]) 0 x u) := fun x u hb => rotR_below 0 x wr u hb ⟨DJ, EJ, OJ, AJ⟩
      have HBW : Hid (B ≤ wr.heap.size) := Nat.le_of_lt DJ.lt
      clear HJ DJ EJ OJ AJ
      go_wp2_with fail
      refine wp_region_sa (RotV p b8 (w.heap.size + 1) B (.slice q j c) n tt) (fun u u' => Only (rotB p b8 (.slice q j c)) u u') (RotS (RotR w p B b8 (fun x => #[.int .i64 5, .int .i64 a, .int .i64 b, .slice none 0 0, .slice none 0 0, .int .i64 0, .int .i64 0, .int .i64 ep, x]) (.slice q j c) sj s' s'' j xs wj (wj ++ [(n, tt)]))) (by kernel_rfl) (only_drew _ _) (only_trans _) (RotV.kept (fun x hx => (HBS.out x hx).2)) (by kernel_rfl) (rot_start (fun x => HR0.out x _ ⟨rfl, rfl, rfl, Nat.le_refl _, fun _ _ => rfl⟩)) ?_ ?_
      · intro i o a' w' f hi inv hS hfi hfw hpre
        have ho : Only (rotB p b8 (.slice q j c)) wr w' := inv.grow
        have hlt : i < 11 := (Array.getElem?_eq_some_iff.1 hi).1
        obtain rfl|rfl|rfl|rfl|rfl|rfl|rfl|rfl|rfl|rfl|rfl : i = 0 ∨ i = 1 ∨ i = 2 ∨ i = 3 ∨ i = 4 ∨ i = 5 ∨ i = 6 ∨ i = 7 ∨ i = 8 ∨ i = 9 ∨ i = 10 := by omega
        · obtain rfl := Option.some.inj hi
          have h0 : a'.tmps.getD 8 undef = .pointer (some ⟨b8, 0, none⟩) := by rw [inv.old 8 (notDst_spec (by kernel_rfl))]; rfl
          exact rot_quiet _ rfl rfl (fa_run 49 8 8 b8 rfl h0 (fa25_8 b8)) (Below.refl _ _) (by decide) (by decide) hS rotR_below rfl
        · obtain rfl := Option.some.inj hi
          have h0 : a'.tmps.getD 58 undef = _ := pre_of hpre 0 58 (by kernel_rfl) (by kernel_rfl)
          obtain ⟨k, hk, hR⟩ := rot_early hS hfi
          have hc : w'.cell? ⟨b8, 8, none⟩ = some (.slice q j c) := by rw [cell_of_row _ _ _ _ _ _ (rotR_row hk hR)]; rfl
          exact rot_quiet _ rfl rfl (load_run 47 58 b8 8 _ rfl h0 (ld23 hc)) (Below.refl _ _) (by decide) (by decide) hS rotR_below rfl
        · obtain rfl := Option.some.inj hi
          exact rot_quiet _ rfl rfl rfl (Below.refl _ _) (by decide) (by decide) hS rotR_below (by show a'.tmps.getD 6 undef = _; rw [inv.old 6 (notDst_spec (by kernel_rfl))]; rfl)
        · obtain rfl := Option.some.inj hi
          have h0 : a'.tmps.getD 60 undef = _ := pre_of hpre 2 60 (by kernel_rfl) (by kernel_rfl)
          refine rot_call (k := 0) 112 #[.pointer (some ⟨B, 0, none⟩)] rfl rfl (clo_run 112 60 _ rfl h0 (call30 _ _)) rfl hfi (fun c h _ => absurd rfl h) (by decide) (by decide) hS (fun hR => ?_)
          exact (c30 (w := w) hR.1 HA).mono (by rintro e u ⟨rfl, d, o'⟩; exact ⟨_, rfl, o'.out.more (by simp [rotB]), ⟨d.out, rot_keep hR.2.1 hR.2.2.1 hR.2.2.2 o'.out L8.out.2⟩, rfl⟩)
        · obtain rfl := Option.some.inj hi
          exact rot_quiet _ rfl rfl rfl (Below.refl _ _) (by decide) (by decide) hS rotR_below (by show a'.tmps.getD 7 undef = _; rw [inv.old 7 (notDst_spec (by kernel_rfl))]; rfl)
        · obtain rfl := Option.some.inj hi
          have h0 : a'.tmps.getD 62 undef = _ := pre_of hpre 4 62 (by kernel_rfl) (by kernel_rfl)
          refine rot_call (k := 1) 113 #[.pointer (some ⟨B, 0, none⟩)] rfl rfl (clo_run 113 62 _ rfl h0 (call31 _ _)) rfl hfi (fun c _ hc => by cases hc; exact been_of hfw 3 (by kernel_rfl)) (by decide) (by decide) hS (fun hR => ?_)
          exact (c31 (w := w) hR.1 HT).mono (by rintro e u ⟨tp, tc, rfl, T, d, o'⟩; exact ⟨_, rfl, o'.out.more (by simp [rotB]), ⟨d.out, rot_keep hR.2.1 hR.2.2.1 hR.2.2.2 o'.out L8.out.2⟩, tp, tc, rfl, T.out⟩)
        · obtain rfl := Option.some.inj hi
          have h0 : a'.tmps.getD 61 undef = _ := pre_of hpre 3 61 (by kernel_rfl) (by kernel_rfl)
          obtain ⟨tp, tc, h1, hT⟩ := pre_of hpre 5 63 (by kernel_rfl) (by kernel_rfl)
          exact rot_quiet _ rfl rfl (bw_run 61 63 n tp _ tc rfl h0 h1) (Below.refl _ _) (by decide) (by decide) hS rotR_below ⟨tp, tc, rfl, hT⟩
        · obtain rfl := Option.some.inj hi
          obtain ⟨tp, tc, h0, hT⟩ := pre_of hpre 6 64 (by kernel_rfl) (by kernel_rfl)
          exact rot_quiet _ rfl rfl (bs_run 64 n tp _ tc rfl h0) (bel_alloc (Nat.le_refl _) _) (by decide) (by decide) hS rotR_below ⟨w'.heap.size, tp, tc, rfl, heap_alloc_new _ _, hT.below (bel_alloc (Nat.le_trans HBW.out ho.size) _), fun e => by have := (HBS.out _ e).1; have := ho.size; omega⟩
        · have hop : o.op = .call { callee := .builtin .append, args := #[.tmp 59, .tmp 65], argTypes := #[47, 47] } := by rw [← Option.some.inj hi]; rfl
          have hwd : ∀ y, Region.wanted o y = true := by intro y; rw [← Option.some.inj hi]; rfl
          have hdst : o.dst = some 66 := by rw [← Option.some.inj hi]; rfl
          rw [← Option.some.inj hi] at hpre hfw
          have h0 : a'.tmps.getD 59 undef = _ := pre_of hpre 1 59 (by kernel_rfl) (by kernel_rfl)
          obtain ⟨g, tp, tc, h1, hg, hT, _⟩ := pre_of hpre 7 65 (by kernel_rfl) (by kernel_rfl)
          have h5 := been_of hfw 5 (by kernel_rfl)
          have hR := rot_two hS hfi h5
          have hbs : b8 + 1 ≤ w'.heap.size := (Array.getElem?_eq_some_iff.1 hR.2.1).1
          obtain ⟨v, w'', hr, k1, k2⟩ := app_run 59 65 (b8 + 1) j _ xs g n tp _ tc hop h0 h1 hR.2.2.1 hg (by omega) hbs
          have hbl := below_append hR.2.2.1 k2 hbs
          have hbB : Below B w' w'' := bel_le hbl (by have := L8.out; omega)
          exact rot_app v hi (hwd _) hr (Only.of_grown k2 (fun x hx => by unfold rotB; rw [hx]; simp)) hfi h5 (been_of hfw 1 (by kernel_rfl)) hdst (by have e79 : a'.tmps.size = 79 := inv.size; omega) hS ⟨hR.1.up (bel_le hbl (by have := L8.out; omega)), (hbl.block b8 (Nat.lt_succ_self _)).trans hR.2.1, _, k1, (hR.2.2.2.turn (fun v t ht => ht.below hbB)).snoc (hT.below hbB) (rT_le HT.out)⟩ trivial
        · obtain rfl := Option.some.inj hi
          have h0 : a'.tmps.getD 8 undef = .pointer (some ⟨b8, 0, none⟩) := by rw [inv.old 8 (notDst_spec (by kernel_rfl))]; rfl
          exact rot_quiet _ rfl rfl (fa_run 49 8 8 b8 rfl h0 (fa25_8 b8)) (Below.refl _ _) (by decide) (by decide) hS rotR_below rfl
        · obtain rfl := Option.some.inj hi
          have h0 : a'.tmps.getD 67 undef = _ := pre_of hpre 9 67 (by kernel_rfl) (by kernel_rfl)
          have h8 := been_of hfw 8 (by kernel_rfl)
          obtain ⟨r1, r2, xs2, r3, r4⟩ := rot_three hS hfi h8
          obtain ⟨q2, c2, e2⟩ := own_slice r3
          have hc : w'.cell? ⟨b8, 8, none⟩ = some (.slice q j c) := by rw [cell_of_row _ _ _ _ _ _ r2]; rfl
          have hbe : Below (b8) w' (w'.setCell ⟨b8, 8, none⟩ (.slice q2 (j + 1) c2)) := (Below.refl _ _).setCell (p := ⟨b8, 8, none⟩) (Nat.le_refl _) _
          have hon : Only [b8] w' (w'.setCell ⟨b8, 8, none⟩ (.slice q2 (j + 1) c2)) := Only.setCell _ _ _ (by simp)
          refine rot_sto rfl rfl (st_run 67 66 b8 8 q2 (j + 1) c2 _ rfl h0 e2 hc (frozen_of_row _ _ _ _ _ r2)) (hon.more (by simp [rotB])) hfi h8 rfl hS ⟨r1.up (bel_le hbe (by have := L8.out; omega)), .slice q2 (j + 1) c2, xs2, heap_setCell_same _ b8 8 _ 49 _ r2, ?_, r4.turn (fun v t ht => ht.below (bel_le hbe (by have := L8.out; omega)))⟩ trivial
          rw [e2] at r3
          exact own_only r3 hon (own_off r3 (by simp))
      · intro a' w3 f inv hS hall _
        have hdf : a'.defers = [] := inv.defers
        have hsz : a'.tmps.size = 79 := inv.size
        have e := frame15 hsz (fun t ht => inv.old t (dstsIn_spec (ts := [58, 59, 60, 61, 62, 63, 64, 65, 66, 67]) (by kernel_rfl) t ht))
        have hR : D4 w w3 p B s'' ∧ _ := hS.2.done (fun c hc => hall c (show c < 11 by simp at hc; omega))
        have HN : Hid (∃ sl xs, D4 w w3 p B (rW 0 4096 (j + 1) s5).2 ∧ w3.heap[b8]? = some (.cells ((fun x => #[.int .i64 5, .int .i64 a, .int .i64 b, .slice none 0 0, .slice none 0 0, .int .i64 0, .int .i64 0, .int .i64 ep, x]) sl) 49 (0, 0)) ∧ w3.ownsRow (b8 + 1) 100 2 sl (j + 1) xs ∧ AreW w3 p (w.heap.size + 1) B xs (rW 0 4096 (j + 1) s5).1) := by
          obtain ⟨r1, v, xs2, r2, r3, r4⟩ := hR
          refine ⟨v, xs2, ?_, r2, r3, ?_⟩
          · rw [HNX.out]; exact r1
          · rw [HNX.out]; exact r4
        clear inv hsz hall hS hR HR0 HBS HA HT HNX HWJ HBW
        obtain ⟨tmps, defers⟩ := a'
        obtain rfl : defers = [] := hdf
        replace e : tmps = _ := e
        generalize tmps.getD 58 undef = x58 at *
        generalize tmps.getD 59 undef = x59 at *
        generalize tmps.getD 60 undef = x60 at *
        generalize tmps.getD 61 undef = x61 at *
        generalize tmps.getD 62 undef = x62 at *
        generalize tmps.getD 63 undef = x63 at *
        generalize tmps.getD 64 undef = x64 at *
        generalize tmps.getD 65 undef = x65 at *
        generalize tmps.getD 66 undef = x66 at *
        generalize tmps.getD 67 undef = x67 at *
        simp only [Array.getD_eq_getD_getElem?, List.getElem?_toArray, List.getElem?_cons_succ, List.getElem?_cons_zero, Option.getD_some] at e
        subst e
        go_wp2_with fail
        refine ⟨⟨j + 1, by omega, by simp, HN⟩, ?_⟩
        simp only [intOf]
        omega
    · obtain rfl : j = cn := by omega
      have j1 : ¬ (j : Int) < (j : Int) := by omega
      rw [HW.out] at DJ AJ
      simp only at DJ AJ
      have hlen : ws.length = j := by have := rW_length (lo := 0) (hi := 4096) (s := s5) j; rw [HW.out] at this; exact this
      have D6 : Hid (D4 w wr p B sE) := DJ
      have E6 : Hid (wr.heap[b8]? = some (.cells #[.int .i64 5, .int .i64 a, .int .i64 b, .slice none 0 0, .slice none 0 0, .int .i64 0, .int .i64 0, .int .i64 ep, .slice q j c] 49 (0, 0))) := EJ
      have EN6 : Hid (EnNew (w.heap.size + 1) wr (.agg #[.int .i64 5, .int .i64 a, .int .i64 b, .slice none 0 0, .slice none 0 0, .int .i64 0, .int .i64 0, .int .i64 ep, .slice q j c]) ⟨5, a, b, [], [], 0, 0, ep, ws⟩) := fun w2 ha => ⟨none, 0, none, 0, q, c, by simp [EnV, hlen], Src.nil _, Src.nil _, AJ.row OJ (by have := L8.out; have := DJ.lo; have := DJ.hi; omega) ha hlen, by simp, by simp, by simp only; omega⟩
      have c4 := D6.out.c4
      clear HJ DJ EJ OJ AJ hlen
      go_wp2_with fail
      clear c4
      generalize wr = w6 at *
      refine (c33 D6 HEN).mono ?_
      rintro e _ ⟨rfl, rfl⟩
      have x0 : w6.cell? ⟨w.heap.size, 0, none⟩ = some (.int .i64 0) := by rw [cell_of_row _ _ _ _ _ _ D6.out.at2]; rfl
      have y0 : w6.frozen? ⟨w.heap.size, 0, none⟩ = false := frozen_of_row _ _ _ _ _ D6.out.at2
      have x1 : w6.cell? ⟨w.heap.size, 1, none⟩ = some (.int .i64 0) := by rw [cell_of_row _ _ _ _ _ _ D6.out.at2]; rfl
      have y1 : w6.frozen? ⟨w.heap.size, 1, none⟩ = false := frozen_of_row _ _ _ _ _ D6.out.at2
      have x2 : w6.cell? ⟨w.heap.size, 2, none⟩ = some (.int .i64 0) := by rw [cell_of_row _ _ _ _ _ _ D6.out.at2]; rfl
      have y2 : w6.frozen? ⟨w.heap.size, 2, none⟩ = false := frozen_of_row _ _ _ _ _ D6.out.at2
      have x3 : w6.cell? ⟨w.heap.size, 3, none⟩ = some (.slice none 0 0) := by rw [cell_of_row _ _ _ _ _ _ D6.out.at2]; rfl
      have y3 : w6.frozen? ⟨w.heap.size, 3, none⟩ = false := frozen_of_row _ _ _ _ _ D6.out.at2
      have x4 : w6.cell? ⟨w.heap.size, 4, none⟩ = some (.slice none 0 0) := by rw [cell_of_row _ _ _ _ _ _ D6.out.at2]; rfl
      have y4 : w6.frozen? ⟨w.heap.size, 4, none⟩ = false := frozen_of_row _ _ _ _ _ D6.out.at2
      have x5 : w6.cell? ⟨w.heap.size, 5, none⟩ = some (.int .i64 0) := by rw [cell_of_row _ _ _ _ _ _ D6.out.at2]; rfl
      have y5 : w6.frozen? ⟨w.heap.size, 5, none⟩ = false := frozen_of_row _ _ _ _ _ D6.out.at2
      have x6 : w6.cell? ⟨w.heap.size, 6, none⟩ = some (.int .i64 0) := by rw [cell_of_row _ _ _ _ _ _ D6.out.at2]; rfl
      have y6 : w6.frozen? ⟨w.heap.size, 6, none⟩ = false := frozen_of_row _ _ _ _ _ D6.out.at2
      have x7 : w6.cell? ⟨w.heap.size, 7, none⟩ = some (.int .i64 0) := by rw [cell_of_row _ _ _ _ _ _ D6.out.at2]; rfl
      have y7 : w6.frozen? ⟨w.heap.size, 7, none⟩ = false := frozen_of_row _ _ _ _ _ D6.out.at2
      have x8 : w6.cell? ⟨w.heap.size, 8, none⟩ = some (.slice none 0 0) := by rw [cell_of_row _ _ _ _ _ _ D6.out.at2]; rfl
      have y8 : w6.frozen? ⟨w.heap.size, 8, none⟩ = false := frozen_of_row _ _ _ _ _ D6.out.at2
      cases en with
      | false =>
        go_wp2_with fail
        refine bodyPost_ret (results_row2 rfl _ _ w.heap.size 49 _ (0, 0) _ rfl (row9 D6.out.at2 _ _ _ _ _ _ _ _ _) Tryz.underlying49 rfl (by kernel_rfl)) rfl ?_
        rw [← HSS.out]
        exact DecSays.no (bel9 D6.out.bel (Nat.le_refl _) _ _ _ _ _ _ _ _ _) (dec_none1 HD.out HEN.out)
      | true =>
        have d0 : w6.cell? ⟨b8, 0, none⟩ = some (.int .i64 5) := by rw [cell_of_row _ _ _ _ _ _ E6.out]; rfl
        have d1 : w6.cell? ⟨b8, 1, none⟩ = some (.int .i64 a) := by rw [cell_of_row _ _ _ _ _ _ E6.out]; rfl
        have d2 : w6.cell? ⟨b8, 2, none⟩ = some (.int .i64 b) := by rw [cell_of_row _ _ _ _ _ _ E6.out]; rfl
        have d3 : w6.cell? ⟨b8, 3, none⟩ = some (.slice none 0 0) := by rw [cell_of_row _ _ _ _ _ _ E6.out]; rfl
        have d4 : w6.cell? ⟨b8, 4, none⟩ = some (.slice none 0 0) := by rw [cell_of_row _ _ _ _ _ _ E6.out]; rfl
        have d5 : w6.cell? ⟨b8, 5, none⟩ = some (.int .i64 0) := by rw [cell_of_row _ _ _ _ _ _ E6.out]; rfl
        have d6 : w6.cell? ⟨b8, 6, none⟩ = some (.int .i64 0) := by rw [cell_of_row _ _ _ _ _ _ E6.out]; rfl
        have d7 : w6.cell? ⟨b8, 7, none⟩ = some (.int .i64 ep) := by rw [cell_of_row _ _ _ _ _ _ E6.out]; rfl
        have d8 : w6.cell? ⟨b8, 8, none⟩ = some (.slice q j c) := by rw [cell_of_row _ _ _ _ _ _ E6.out]; rfl
        have HRT := Right_any ⟨5, a, b, [], [], 0, 0, ep, ws⟩ _ w6 EN6.out.is
        cases hr : right ⟨5, a, b, [], [], 0, 0, ep, ws⟩ with
        | false =>
          rw [hr] at HRT
          have HR : Hid (right ⟨5, a, b, [], [], 0, 0, ep, ws⟩ = false) := hr
          clear hr
          have HR7 : ∀ W, W = w6 → Calls Tryz.prog 37 #[.agg #[.int .i64 5, .int .i64 a, .int .i64 b, .slice none 0 0, .slice none 0 0, .int .i64 0, .int .i64 0, .int .i64 ep, .slice q j c]] W fun e w' => e = .returned (.bool false) ∧ Hid (D4 w w' p B sE) ∧ Hid (Below w6.heap.size w6 w') ∧ w'.cell? ⟨w.heap.size, 0, none⟩ = some (.int .i64 0) ∧ w'.frozen? ⟨w.heap.size, 0, none⟩ = false ∧ w'.cell? ⟨w.heap.size, 1, none⟩ = some (.int .i64 0) ∧ w'.frozen? ⟨w.heap.size, 1, none⟩ = false ∧ w'.cell? ⟨w.heap.size, 2, none⟩ = some (.int .i64 0) ∧ w'.frozen? ⟨w.heap.size, 2, none⟩ = false ∧ w'.cell? ⟨w.heap.size, 3, none⟩ = some (.slice none 0 0) ∧ w'.frozen? ⟨w.heap.size, 3, none⟩ = false ∧ w'.cell? ⟨w.heap.size, 4, none⟩ = some (.slice none 0 0) ∧ w'.frozen? ⟨w.heap.size, 4, none⟩ = false ∧ w'.cell? ⟨w.heap.size, 5, none⟩ = some (.int .i64 0) ∧ w'.frozen? ⟨w.heap.size, 5, none⟩ = false ∧ w'.cell? ⟨w.heap.size, 6, none⟩ = some (.int .i64 0) ∧ w'.frozen? ⟨w.heap.size, 6, none⟩ = false ∧ w'.cell? ⟨w.heap.size, 7, none⟩ = some (.int .i64 0) ∧ w'.frozen? ⟨w.heap.size, 7, none⟩ = false ∧ w'.cell? ⟨w.heap.size, 8, none⟩ = some (.slice none 0 0) ∧ w'.frozen? ⟨w.heap.size, 8, none⟩ = false := by
            rintro W rfl
            refine HRT.mono ?_
            rintro e w' ⟨rfl, h7⟩
            have D7 : D4 w w' p B sE := D6.out.up (bel_le h7 D6.out.lt)
            have E7 := (h7.block b8 (Array.getElem?_eq_some_iff.1 E6.out).1).trans E6.out
            refine ⟨rfl, D7, h7, ?_, frozen_of_row _ _ _ _ _ D7.at2, ?_, frozen_of_row _ _ _ _ _ D7.at2, ?_, frozen_of_row _ _ _ _ _ D7.at2, ?_, frozen_of_row _ _ _ _ _ D7.at2, ?_, frozen_of_row _ _ _ _ _ D7.at2, ?_, frozen_of_row _ _ _ _ _ D7.at2, ?_, frozen_of_row _ _ _ _ _ D7.at2, ?_, frozen_of_row _ _ _ _ _ D7.at2, ?_, frozen_of_row _ _ _ _ _ D7.at2⟩
            · rw [cell_of_row _ _ _ _ _ _ D7.at2]; rfl
            · rw [cell_of_row _ _ _ _ _ _ D7.at2]; rfl
            · rw [cell_of_row _ _ _ _ _ _ D7.at2]; rfl
            · rw [cell_of_row _ _ _ _ _ _ D7.at2]; rfl
            · rw [cell_of_row _ _ _ _ _ _ D7.at2]; rfl
            · rw [cell_of_row _ _ _ _ _ _ D7.at2]; rfl
            · rw [cell_of_row _ _ _ _ _ _ D7.at2]; rfl
            · rw [cell_of_row _ _ _ _ _ _ D7.at2]; rfl
            · rw [cell_of_row _ _ _ _ _ _ D7.at2]; rfl
          clear HRT
          go_wp2_with (first | (go_at_call 37; refine (HR7 _ rfl).mono ?_; rintro e w7 ⟨rfl, D7, B7, u0, v0, u1, v1, u2, v2, u3, v3, u4, v4, u5, v5, u6, v6, u7, v7, u8, v8⟩))
          refine bodyPost_ret (results_row2 rfl _ _ w.heap.size 49 _ (0, 0) _ rfl (row9 D7.out.at2 _ _ _ _ _ _ _ _ _) Tryz.underlying49 rfl (by kernel_rfl)) rfl ?_
          rw [← HSS.out]
          exact DecSays.no (bel9 D7.out.bel (Nat.le_refl _) _ _ _ _ _ _ _ _ _) (dec_none2 HD.out HR.out)
        | true =>
          rw [hr] at HRT
          have HR : Hid (right ⟨5, a, b, [], [], 0, 0, ep, ws⟩ = true) := hr
          clear hr
          have HR7 : ∀ W, W = w6 → Calls Tryz.prog 37 #[.agg #[.int .i64 5, .int .i64 a, .int .i64 b, .slice none 0 0, .slice none 0 0, .int .i64 0, .int .i64 0, .int .i64 ep, .slice q j c]] W fun e w' => e = .returned (.bool true) ∧ Hid (D4 w w' p B sE) ∧ Hid (Below w6.heap.size w6 w') ∧ w'.cell? ⟨w.heap.size, 0, none⟩ = some (.int .i64 0) ∧ w'.frozen? ⟨w.heap.size, 0, none⟩ = false ∧ w'.cell? ⟨w.heap.size, 1, none⟩ = some (.int .i64 0) ∧ w'.frozen? ⟨w.heap.size, 1, none⟩ = false ∧ w'.cell? ⟨w.heap.size, 2, none⟩ = some (.int .i64 0) ∧ w'.frozen? ⟨w.heap.size, 2, none⟩ = false ∧ w'.cell? ⟨w.heap.size, 3, none⟩ = some (.slice none 0 0) ∧ w'.frozen? ⟨w.heap.size, 3, none⟩ = false ∧ w'.cell? ⟨w.heap.size, 4, none⟩ = some (.slice none 0 0) ∧ w'.frozen? ⟨w.heap.size, 4, none⟩ = false ∧ w'.cell? ⟨w.heap.size, 5, none⟩ = some (.int .i64 0) ∧ w'.frozen? ⟨w.heap.size, 5, none⟩ = false ∧ w'.cell? ⟨w.heap.size, 6, none⟩ = some (.int .i64 0) ∧ w'.frozen? ⟨w.heap.size, 6, none⟩ = false ∧ w'.cell? ⟨w.heap.size, 7, none⟩ = some (.int .i64 0) ∧ w'.frozen? ⟨w.heap.size, 7, none⟩ = false ∧ w'.cell? ⟨w.heap.size, 8, none⟩ = some (.slice none 0 0) ∧ w'.frozen? ⟨w.heap.size, 8, none⟩ = false ∧ w'.cell? ⟨b8, 0, none⟩ = some (.int .i64 5) ∧ w'.cell? ⟨b8, 1, none⟩ = some (.int .i64 a) ∧ w'.cell? ⟨b8, 2, none⟩ = some (.int .i64 b) ∧ w'.cell? ⟨b8, 3, none⟩ = some (.slice none 0 0) ∧ w'.cell? ⟨b8, 4, none⟩ = some (.slice none 0 0) ∧ w'.cell? ⟨b8, 5, none⟩ = some (.int .i64 0) ∧ w'.cell? ⟨b8, 6, none⟩ = some (.int .i64 0) ∧ w'.cell? ⟨b8, 7, none⟩ = some (.int .i64 ep) ∧ w'.cell? ⟨b8, 8, none⟩ = some (.slice q j c) := by
            rintro W rfl
            refine HRT.mono ?_
            rintro e w' ⟨rfl, h7⟩
            have D7 : D4 w w' p B sE := D6.out.up (bel_le h7 D6.out.lt)
            have E7 := (h7.block b8 (Array.getElem?_eq_some_iff.1 E6.out).1).trans E6.out
            refine ⟨rfl, D7, h7, ?_, frozen_of_row _ _ _ _ _ D7.at2, ?_, frozen_of_row _ _ _ _ _ D7.at2, ?_, frozen_of_row _ _ _ _ _ D7.at2, ?_, frozen_of_row _ _ _ _ _ D7.at2, ?_, frozen_of_row _ _ _ _ _ D7.at2, ?_, frozen_of_row _ _ _ _ _ D7.at2, ?_, frozen_of_row _ _ _ _ _ D7.at2, ?_, frozen_of_row _ _ _ _ _ D7.at2, ?_, frozen_of_row _ _ _ _ _ D7.at2, ?_, ?_, ?_, ?_, ?_, ?_, ?_, ?_, ?_⟩
            · rw [cell_of_row _ _ _ _ _ _ D7.at2]; rfl
            · rw [cell_of_row _ _ _ _ _ _ D7.at2]; rfl
            · rw [cell_of_row _ _ _ _ _ _ D7.at2]; rfl
            · rw [cell_of_row _ _ _ _ _ _ D7.at2]; rfl
            · rw [cell_of_row _ _ _ _ _ _ D7.at2]; rfl
            · rw [cell_of_row _ _ _ _ _ _ D7.at2]; rfl
            · rw [cell_of_row _ _ _ _ _ _ D7.at2]; rfl
            · rw [cell_of_row _ _ _ _ _ _ D7.at2]; rfl
            · rw [cell_of_row _ _ _ _ _ _ D7.at2]; rfl
            · rw [cell_of_row _ _ _ _ _ _ E7]; rfl
            · rw [cell_of_row _ _ _ _ _ _ E7]; rfl
            · rw [cell_of_row _ _ _ _ _ _ E7]; rfl
            · rw [cell_of_row _ _ _ _ _ _ E7]; rfl
            · rw [cell_of_row _ _ _ _ _ _ E7]; rfl
            · rw [cell_of_row _ _ _ _ _ _ E7]; rfl
            · rw [cell_of_row _ _ _ _ _ _ E7]; rfl
            · rw [cell_of_row _ _ _ _ _ _ E7]; rfl
            · rw [cell_of_row _ _ _ _ _ _ E7]; rfl
          clear HRT
          go_wp2_with (first | (go_at_call 37; refine (HR7 _ rfl).mono ?_; rintro e w7 ⟨rfl, D7, B7, u0, v0, u1, v1, u2, v2, u3, v3, u4, v4, u5, v5, u6, v6, u7, v7, u8, v8, z0, z1, z2, z3, z4, z5, z6, z7, z8⟩))
          refine bodyPost_ret (results_row2 rfl _ _ w.heap.size 49 _ (0, 0) _ rfl (row9 D7.out.at2 _ _ _ _ _ _ _ _ _) Tryz.underlying49 rfl (by kernel_rfl)) rfl ?_
          rw [← HSS.out]
          exact DecSays.yes (bel9 D7.out.bel (Nat.le_refl _) _ _ _ _ _ _ _ _ _) (dec_some HD.out HEN.out HR.out) ((EN6.out.agree (Agree.below B7.out)).last (only9 _ _ _ _ _ _ _ _ _ _ _))
end Go.Proofs.YtfjdaafckiefdaaGreatDoor.E9
/- The contract of Decode. -/
namespace Go.Proofs.YtfjdaafckiefdaaGreatDoor.E9
open Go.RowKit C8
theorem rN_count {s s' : Sta} {n : Int} (h : rN 0 16 s = (n, s')) : ∃ c : Nat, n = (c : Int) ∧ c ≤ 16 := by
  unfold rN at h
  split at h
  · cases h
    exact ⟨0, rfl, by omega⟩
  · cases h
    exact ⟨_, rfl, by omega⟩
theorem Decode_any (sv : Value) (l : List Nat) (w : World) (hs : Src w sv l) (hl : l.length ≤ 900000) :
    Calls Tryz.prog 68 #[sv] w fun e w' => DecSays l w e w' := by
  obtain ⟨k, s1, H1⟩ : ∃ k s1, rN 0 1099511627776 (l, false) = (k, s1) := ⟨_, _, rfl⟩
  obtain ⟨a, s2, H2⟩ : ∃ a s2, rN 1 16 s1 = (a, s2) := ⟨_, _, rfl⟩
  obtain ⟨b, s3, H3⟩ : ∃ b s3, rN 0 1099511627776 s2 = (b, s3) := ⟨_, _, rfl⟩
  by_cases k1 : k = 1
  · subst k1
    obtain ⟨t4, s4, H4⟩ : ∃ t4 s4, rT 0 4096 s3 = (t4, s4) := ⟨_, _, rfl⟩
    obtain ⟨t5, s5, H5⟩ : ∃ t5 s5, rT 0 4096 s4 = (t5, s5) := ⟨_, _, rfl⟩
    exact dk1 sv l w hs hl a b s1 s2 s3 H1 H2 H3 t4 s4 H4 t5 s5 H5 _ rfl
  by_cases k2 : k = 2
  · subst k2
    obtain ⟨t4, s4, H4⟩ : ∃ t4 s4, rT 0 4096 s3 = (t4, s4) := ⟨_, _, rfl⟩
    exact dk2 sv l w hs hl a b s1 s2 s3 H1 H2 H3 t4 s4 H4 _ rfl
  by_cases k3 : k = 3
  · subst k3
    obtain ⟨n4, s4, H4⟩ : ∃ n4 s4, rN 1 16 s3 = (n4, s4) := ⟨_, _, rfl⟩
    obtain ⟨n5, s5, H5⟩ : ∃ n5 s5, rN 0 1099511627776 s4 = (n5, s5) := ⟨_, _, rfl⟩
    exact dk3 sv l w hs hl a b s1 s2 s3 H1 H2 H3 n4 s4 H4 n5 s5 H5 _ rfl
  by_cases k4 : k = 4
  · subst k4
    obtain ⟨n4, s4, H4⟩ : ∃ n4 s4, rN 1 16 s3 = (n4, s4) := ⟨_, _, rfl⟩
    exact dk4 sv l w hs hl a b s1 s2 s3 H1 H2 H3 n4 s4 H4 _ rfl
  by_cases k5 : k = 5
  · subst k5
    obtain ⟨ep, s4, H4⟩ : ∃ ep s4, rN 0 1099511627776 s3 = (ep, s4) := ⟨_, _, rfl⟩
    obtain ⟨c, s5, H5⟩ : ∃ c s5, rN 0 16 s4 = (c, s5) := ⟨_, _, rfl⟩
    obtain ⟨cn, rfl, hcn⟩ := rN_count H5
    obtain ⟨ws, sE, HW⟩ : ∃ ws sE, rW 0 4096 cn s5 = (ws, sE) := ⟨_, _, rfl⟩
    exact dk5 sv l w hs hl a b s1 s2 s3 H1 H2 H3 ep s4 s5 cn H4 H5 hcn ws sE HW _ rfl
  exact dk0 sv l w hs hl k a b s1 s2 s3 H1 H2 H3 k1 k2 k3 k4 k5 _ rfl
end Go.Proofs.YtfjdaafckiefdaaGreatDoor.E9
