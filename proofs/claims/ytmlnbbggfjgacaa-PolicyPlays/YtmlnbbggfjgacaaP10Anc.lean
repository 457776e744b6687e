/- What a grant and a revoke of the founder's make; the contract of anchor. -/
import Derived.Test.YtmlnbbggfjgacaaP10Anc0
import Derived.Lib.SmallJoins
namespace Go.Proofs.Ytmlnbbggfjgacaa.P10
open Go.RowKit C8 E9
/-- A policy told by its value and its rights. -/
def Told2 (w : World) (v : Value) (e : Int) (R : Int → Int) : Prop := ∃ p, PolIs w v p ∧ pright p = true ∧ p.f = 1 ∧ p.e = e ∧ ∀ x, rts p.ms x = R x
theorem Told2.below {w w' : World} {v : Value} {e : Int} {R : Int → Int} (h : Told2 w v e R) (hb : Below w.heap.size w w') : Told2 w' v e R := by
  obtain ⟨p, h1, h2⟩ := h
  exact ⟨p, h1.below hb, h2⟩
theorem first_told (w : World) : Calls Try.prog 10 #[.int .i64 1] w fun x w' => ∃ q c, x = .returned (.tuple #[.agg #[.int .i64 1, .int .i64 0, .slice q 1 c], .int .i64 0]) ∧ Told2 w' (.agg #[.int .i64 1, .int .i64 0, .slice q 1 c]) 0 (fun x => if 1 = x then 7 else 0) ∧ Below w.heap.size w w' := (First_ok 1 w (by decide)).mono (by
  rintro x w' ⟨v, rfl, hp, hb⟩
  have h2 := pfirst_right (n := 1) (by decide)
  have hp' := hp
  obtain ⟨q, c, rfl, -, -⟩ := hp
  exact ⟨q, c, rfl, ⟨pfirst 1, hp', h2.1, rfl, rfl, h2.2⟩, hb⟩)
theorem change_any (e : En) (v ve : Value) (ep : Int) (R : Int → Int) (w : World) (hv : Told2 w v ep R) (hE : EnIs w ve e) (hm : ∀ p, pright p = true → p.f = 1 → rts p.ms 1 = 7 → p.e = ep → (∀ x, rts p.ms x = R x) → may p e = 0) :
    Calls Try.prog 14 #[v, ve] w fun x w' => ∃ f1 e1 q1 n1 c1, x = .returned (.tuple #[.agg #[.int .i64 f1, .int .i64 e1, .slice q1 n1 c1], .int .i64 0]) ∧ Told2 w' (.agg #[.int .i64 f1, .int .i64 e1, .slice q1 n1 c1]) (if e.kind = 5 then e.epoch else ep) (fun x => if e.kind = 3 ∧ x = e.who then e.rights else if e.kind = 4 ∧ x = e.who then 0 else R x) ∧ Below w.heap.size w w' := by
  obtain ⟨p, h1, h2, h3, h4, h5⟩ := hv
  have h17 : rts p.ms 1 = 7 := by have := (pright_of h2).2.2.2.1; rw [h3] at this; exact this
  have h0 := hm p h2 h3 h17 h4 h5
  refine (Apply_yes p e v ve w h1 hE h0).mono ?_
  rintro x w' ⟨hb, p', q, c, rfl, ho, ha⟩
  obtain ⟨k1, k2, k3, k4⟩ := ap_after h0 ha
  have hlen : p'.ms.length ≤ 16 := by have := mok_len (by decide) (pright_of k1).2.2.1; omega
  refine ⟨p'.f, p'.e, q, p'.ms.length, c, rfl, ⟨p', ⟨q, c, rfl, ho.mb.2, by omega⟩, k1, by rw [k2, h3], by rw [k3, h4], fun x => ?_⟩, hb⟩
  rw [k4]
  unfold rafter
  rw [h5]
theorem grant_told (v : Value) (ep s who r : Int) (R : Int → Int) (w : World) (hv : Told2 w v ep R) (hs : 1 ≤ s ∧ s ≤ 1099511627776) (hw : 2 ≤ who ∧ who ≤ 16) (hr : 1 ≤ r ∧ r ≤ 7) :
    Calls Try.prog 14 #[v, .agg #[.int .i64 3, .int .i64 1, .int .i64 s, .slice none 0 0, .slice none 0 0, .int .i64 who, .int .i64 r, .int .i64 0, .slice none 0 0]] w fun x w' => ∃ f1 e1 q1 n1 c1, x = .returned (.tuple #[.agg #[.int .i64 f1, .int .i64 e1, .slice q1 n1 c1], .int .i64 0]) ∧ Told2 w' (.agg #[.int .i64 f1, .int .i64 e1, .slice q1 n1 c1]) ep (fun x => if x = who then r else R x) ∧ Below w.heap.size w w' := by
  refine (change_any ⟨3, 1, s, [], [], who, r, 0, []⟩ v _ ep R w hv (en_grant w s who r) (fun p h1 h2 h3 _ _ => may_grant h1 h3 hs (by omega) hr (by omega))).mono ?_
  rintro x w' ⟨f1, e1, q1, n1, c1, rfl, h1, h2⟩
  refine ⟨f1, e1, q1, n1, c1, rfl, ?_, h2⟩
  simpa using h1
theorem right_revoke {s who : Int} (hs : 1 ≤ s ∧ s ≤ 1099511627776) (hw : 1 ≤ who ∧ who ≤ 16) : right ⟨4, 1, s, [], [], who, 0, 0, []⟩ = true :=
  (right_iff _).2 ⟨by simp, hs, .inr (.inr (.inr (.inl ⟨rfl, rfl, rfl, hw, rfl, rfl, rfl⟩)))⟩
theorem revoke_told (v : Value) (ep s who : Int) (R : Int → Int) (w : World) (hv : Told2 w v ep R) (hs : 1 ≤ s ∧ s ≤ 1099511627776) (hw : 2 ≤ who ∧ who ≤ 16) :
    Calls Try.prog 14 #[v, .agg #[.int .i64 4, .int .i64 1, .int .i64 s, .slice none 0 0, .slice none 0 0, .int .i64 who, .int .i64 0, .int .i64 0, .slice none 0 0]] w fun x w' => ∃ f1 e1 q1 n1 c1, x = .returned (.tuple #[.agg #[.int .i64 f1, .int .i64 e1, .slice q1 n1 c1], .int .i64 0]) ∧ Told2 w' (.agg #[.int .i64 f1, .int .i64 e1, .slice q1 n1 c1]) ep (fun x => if x = who then 0 else R x) ∧ Below w.heap.size w w' := by
  refine (change_any ⟨4, 1, s, [], [], who, 0, 0, []⟩ v _ ep R w hv ⟨none, 0, none, 0, none, 0, rfl, Src.nil _, Src.nil _, WrRow.nil _ _, by simp, by simp, by simp⟩ (fun p h1 h2 h3 _ _ => ?_)).mono ?_
  · unfold may
    rw [if_pos ⟨h1, right_revoke hs (by omega)⟩]
    have : allows p ⟨4, 1, s, [], [], who, 0, 0, []⟩ = true := by
      unfold allows
      simp only [h3, h2]
      simp
      omega
    rw [if_pos this]
    simp
  · rintro x w' ⟨f1, e1, q1, n1, c1, rfl, h1, h2⟩
    refine ⟨f1, e1, q1, n1, c1, rfl, ?_, h2⟩
    simpa using h1
theorem may_told (v ve : Value) (ep : Int) (R : Int → Int) (w : World) (hv : Told2 w v ep R) (hE : EnIs w ve ⟨1, 2, 1, [97], [], 0, 0, 0, []⟩) : Calls Try.prog 18 #[v, ve] w fun x w' => x = .returned (.int .i64 (if 2 ≤ R 2 then 0 else 30)) ∧ Below w.heap.size w w' := by
  obtain ⟨p, h1, h2, h3, h4, h5⟩ := hv
  have h := May_any p ⟨1, 2, 1, [97], [], 0, 0, 0, []⟩ v ve w h1 hE
  rw [may_put h2, h5] at h
  exact h
set_option maxHeartbeats 8000000 in
set_option maxRecDepth 20000 in
theorem anchor_any (w : World) : Calls Try.prog 9 #[] w fun x w' => x = .returned (.bool true) ∧ Below w.heap.size w w' := by
  have HC10 : ∀ W, W = w → Calls Try.prog 10 #[.int .i64 1] W fun x w' => ∃ q c, x = .returned (.tuple #[.agg #[.int .i64 1, .int .i64 0, .slice q 1 c], .int .i64 0]) ∧ Hid (Told2 w' (.agg #[.int .i64 1, .int .i64 0, .slice q 1 c]) 0 (fun x => if 1 = x then 7 else 0) ∧ Below w.heap.size w w') := fun W h => by
    rw [h]
    exact first_told w
  go_enter Try.func9, Try.ntmps9
  go_wp2_with fail
  refine (HC10 _ rfl).mono ?_
  rintro x w1 ⟨q1, c1, rfl, T1⟩
  have hcv := Joins.run_convert_bytes_const_at (P := Try.prog) (w1.alloc (.cells #[.int .i64 1, .int .i64 0, .slice q1 1 c1] 26)) 35 5 #[.int .u8 97] 1 1 (w1.heap.size + 1) (by simp) Try.underlying35 Try.underlying5
  obtain ⟨W3, HW3⟩ : ∃ W3, Hid ((((w1.alloc (.cells #[.int .i64 1, .int .i64 0, .slice q1 1 c1] 26)).alloc (.cells #[.int .u8 97] 5 (1, 2))).alloc (.cells #[.int .i64 1, .int .i64 2, .int .i64 1, .slice (some ⟨w1.heap.size + 1, 0, none⟩) 1 1, .slice none 0 0, .int .i64 0, .int .i64 0, .int .i64 0, .slice none 0 0] 38)) = W3) := ⟨_, rfl⟩
  have HB3 : Hid (Below w1.heap.size w1 W3) := by rw [← HW3.out]; exact bel3 w1 _ _ _
  have HF3 : Hid (W3.heap[w1.heap.size]? = some (.cells #[.int .i64 1, .int .i64 0, .slice q1 1 c1] 26 (0, 0)) ∧ W3.heap[w1.heap.size + 1]? = some (.cells #[.int .u8 97] 5 (1, 2)) ∧ W3.heap[w1.heap.size + 2]? = some (.cells #[.int .i64 1, .int .i64 2, .int .i64 1, .slice (some ⟨w1.heap.size + 1, 0, none⟩) 1 1, .slice none 0 0, .int .i64 0, .int .i64 0, .int .i64 0, .slice none 0 0] 38 (0, 0))) := by
    rw [← HW3.out]
    refine ⟨?_, mid3 w1 _ _ _, ?_⟩
    · exact ((bel_alloc (by simp) _ : Below (w1.heap.size + 1) _ _).block _ (by omega)).trans (heap_alloc2_old w1 _ _)
    · have h := heap_alloc_new ((w1.alloc (.cells #[.int .i64 1, .int .i64 0, .slice q1 1 c1] 26)).alloc (.cells #[.int .u8 97] 5 (1, 2))) (.cells #[.int .i64 1, .int .i64 2, .int .i64 1, .slice (some ⟨w1.heap.size + 1, 0, none⟩) 1 1, .slice none 0 0, .int .i64 0, .int .i64 0, .int .i64 0, .slice none 0 0] 38)
      rw [show ((w1.alloc (.cells #[.int .i64 1, .int .i64 0, .slice q1 1 c1] 26)).alloc (.cells #[.int .u8 97] 5 (1, 2))).heap.size = w1.heap.size + 2 from by simp] at h
      exact h
  have HEN : Hid (EnIs W3 (.agg #[.int .i64 1, .int .i64 2, .int .i64 1, .slice (some ⟨w1.heap.size + 1, 0, none⟩) 1 1, .slice none 0 0, .int .i64 0, .int .i64 0, .int .i64 0, .slice none 0 0]) ⟨1, 2, 1, [97], [], 0, 0, 0, []⟩) := by
    refine ⟨some ⟨w1.heap.size + 1, 0, none⟩, 1, none, 0, none, 0, rfl, ?_, Src.nil _, WrRow.nil _ _, by simp, by simp, by simp⟩
    refine ⟨by simp, .inr (.inr ⟨w1.heap.size + 1, 0, 1, rfl, by simp, fun j u hu => ?_⟩)⟩
    rw [cell_of_row _ _ _ _ _ _ HF3.out.2.1, Nat.zero_add]
    simpa [ints] using hu
  have HT3 : Hid (Told2 W3 (.agg #[.int .i64 1, .int .i64 0, .slice q1 1 c1]) 0 (fun x => if 1 = x then 7 else 0)) := T1.out.1.below HB3.out
  have HB0 : Hid (Below w.heap.size w W3) := T1.out.2.trans (bel_le HB3.out T1.out.2.size)
  have HALL : Hid (∀ W, Below W3.heap.size W3 W → Below w.heap.size w W ∧ EnIs W (.agg #[.int .i64 1, .int .i64 2, .int .i64 1, .slice (some ⟨w1.heap.size + 1, 0, none⟩) 1 1, .slice none 0 0, .int .i64 0, .int .i64 0, .int .i64 0, .slice none 0 0]) ⟨1, 2, 1, [97], [], 0, 0, 0, []⟩ ∧ (W.cell? ⟨w1.heap.size, 0, none⟩ = some (.int .i64 1) ∧ W.cell? ⟨w1.heap.size, 1, none⟩ = some (.int .i64 0) ∧ W.cell? ⟨w1.heap.size, 2, none⟩ = some (.slice q1 1 c1)) ∧ (W.cell? ⟨(w1.heap.size + 2), 0, none⟩ = some (.int .i64 1) ∧ W.cell? ⟨(w1.heap.size + 2), 1, none⟩ = some (.int .i64 2) ∧ W.cell? ⟨(w1.heap.size + 2), 2, none⟩ = some (.int .i64 1) ∧ W.cell? ⟨(w1.heap.size + 2), 3, none⟩ = some (.slice (some ⟨w1.heap.size + 1, 0, none⟩) 1 1) ∧ W.cell? ⟨(w1.heap.size + 2), 4, none⟩ = some (.slice none 0 0) ∧ W.cell? ⟨(w1.heap.size + 2), 5, none⟩ = some (.int .i64 0) ∧ W.cell? ⟨(w1.heap.size + 2), 6, none⟩ = some (.int .i64 0) ∧ W.cell? ⟨(w1.heap.size + 2), 7, none⟩ = some (.int .i64 0) ∧ W.cell? ⟨(w1.heap.size + 2), 8, none⟩ = some (.slice none 0 0))) := fun W hb => by
    have k1 := (hb.block _ (Array.getElem?_eq_some_iff.1 HF3.out.1).1).trans HF3.out.1
    have k2 := (hb.block _ (Array.getElem?_eq_some_iff.1 HF3.out.2.2).1).trans HF3.out.2.2
    refine ⟨HB0.out.trans (bel_le hb HB0.out.size), HEN.out.below hb, ⟨?_, ?_, ?_⟩, ?_, ?_, ?_, ?_, ?_, ?_, ?_, ?_, ?_⟩
    all_goals first
      | (rw [cell_of_row _ _ _ _ _ _ k1]; rfl)
      | (rw [cell_of_row _ _ _ _ _ _ k2]; rfl)
  have H18a : Calls Try.prog 18 #[.agg #[.int .i64 1, .int .i64 0, .slice q1 1 c1], .agg #[.int .i64 1, .int .i64 2, .int .i64 1, .slice (some ⟨w1.heap.size + 1, 0, none⟩) 1 1, .slice none 0 0, .int .i64 0, .int .i64 0, .int .i64 0, .slice none 0 0]] W3 fun x w' => x = .returned (.int .i64 30) ∧ Hid (Below W3.heap.size W3 w') := may_told _ _ _ _ W3 HT3.out HEN.out
  go_wp2_with fail
  clear hcv
  rw [HW3.out]
  refine H18a.mono ?_
  rintro x w4 ⟨rfl, B4⟩
  clear H18a HC10 HW3 HF3 HEN
  obtain ⟨-, -, ⟨d0, d1, d2⟩, f0, f1, f2, f3, f4, f5, f6, f7, f8⟩ := HALL.out w4 B4.out
  have H14a : Calls Try.prog 14 #[.agg #[.int .i64 1, .int .i64 0, .slice q1 1 c1], .agg #[.int .i64 3, .int .i64 1, .int .i64 1, .slice none 0 0, .slice none 0 0, .int .i64 2, .int .i64 2, .int .i64 0, .slice none 0 0]] w4 fun x w' => ∃ f1 e1 q1' n1 c1', x = .returned (.tuple #[.agg #[.int .i64 f1, .int .i64 e1, .slice q1' n1 c1'], .int .i64 0]) ∧ Hid (Told2 w' (.agg #[.int .i64 f1, .int .i64 e1, .slice q1' n1 c1']) 0 (fun x => if x = 2 then 2 else if 1 = x then 7 else 0) ∧ Below w4.heap.size w4 w') := grant_told _ 0 1 2 2 _ w4 (HT3.out.below B4.out) (by decide) (by decide) (by decide)
  go_wp2_with fail
  refine H14a.mono ?_
  rintro x w5 ⟨pf5, pe5, q5, n5, c5, rfl, T5⟩
  clear H14a d0 d1 d2 f0 f1 f2 f3 f4 f5 f6 f7 f8
  have A5 : Below w5.heap.size w5 (w5.alloc (.cells #[.int .i64 pf5, .int .i64 pe5, .slice q5 n5 c5] 26)) := bel_alloc (Nat.le_refl _) _
  have H14b : Calls Try.prog 14 #[.agg #[.int .i64 pf5, .int .i64 pe5, .slice q5 n5 c5], .agg #[.int .i64 3, .int .i64 1, .int .i64 2, .slice none 0 0, .slice none 0 0, .int .i64 2, .int .i64 1, .int .i64 0, .slice none 0 0]] (w5.alloc (.cells #[.int .i64 pf5, .int .i64 pe5, .slice q5 n5 c5] 26)) fun x w' => ∃ f1 e1 q1' n1 c1', x = .returned (.tuple #[.agg #[.int .i64 f1, .int .i64 e1, .slice q1' n1 c1'], .int .i64 0]) ∧ Hid (Told2 w' (.agg #[.int .i64 f1, .int .i64 e1, .slice q1' n1 c1']) 0 (fun x => if x = 2 then 1 else if x = 2 then 2 else if 1 = x then 7 else 0) ∧ Below (w5.alloc (.cells #[.int .i64 pf5, .int .i64 pe5, .slice q5 n5 c5] 26)).heap.size (w5.alloc (.cells #[.int .i64 pf5, .int .i64 pe5, .slice q5 n5 c5] 26)) w') := grant_told _ 0 2 2 1 _ _ (T5.out.1.below A5) (by decide) (by decide) (by decide)
  have T6 : Hid (Told2 (w5.alloc (.cells #[.int .i64 pf5, .int .i64 pe5, .slice q5 n5 c5] 26)) (.agg #[.int .i64 pf5, .int .i64 pe5, .slice q5 n5 c5]) 0 (fun x => if x = 2 then 2 else if 1 = x then 7 else 0)) := T5.out.1.below A5
  have B6 : Hid (Below W3.heap.size W3 (w5.alloc (.cells #[.int .i64 pf5, .int .i64 pe5, .slice q5 n5 c5] 26))) := (B4.out.trans (bel_le T5.out.2 B4.out.size)).trans (bel_le A5 (Nat.le_trans B4.out.size T5.out.2.size))
  have R6 : Hid ((w5.alloc (.cells #[.int .i64 pf5, .int .i64 pe5, .slice q5 n5 c5] 26)).heap[w5.heap.size]? = some (.cells #[.int .i64 pf5, .int .i64 pe5, .slice q5 n5 c5] 26 (0, 0))) := heap_alloc_new w5 _
  clear A5 T5 B4
  go_wp2_with fail
  refine H14b.mono ?_
  rintro x w7 ⟨pf7, pe7, q7, n7, c7, rfl, T7⟩
  clear H14b
  generalize w5.alloc (.cells #[.int .i64 pf5, .int .i64 pe5, .slice q5 n5 c5] 26) = W6 at *
  generalize w5.heap.size = b5 at *
  have A7 : Below w7.heap.size w7 (w7.alloc (.cells #[.int .i64 pf7, .int .i64 pe7, .slice q7 n7 c7] 26)) := bel_alloc (Nat.le_refl _) _
  have B8 : Below W6.heap.size W6 (w7.alloc (.cells #[.int .i64 pf7, .int .i64 pe7, .slice q7 n7 c7] 26)) := T7.out.2.trans (bel_le A7 T7.out.2.size)
  have T8 : Hid (Told2 (w7.alloc (.cells #[.int .i64 pf7, .int .i64 pe7, .slice q7 n7 c7] 26)) (.agg #[.int .i64 pf7, .int .i64 pe7, .slice q7 n7 c7]) 0 (fun x => if x = 2 then 1 else if x = 2 then 2 else if 1 = x then 7 else 0)) := T7.out.1.below A7
  have B38 : Hid (Below W3.heap.size W3 (w7.alloc (.cells #[.int .i64 pf7, .int .i64 pe7, .slice q7 n7 c7] 26))) := B6.out.trans (bel_le B8 B6.out.size)
  have R8 : Hid ((w7.alloc (.cells #[.int .i64 pf7, .int .i64 pe7, .slice q7 n7 c7] 26)).heap[w7.heap.size]? = some (.cells #[.int .i64 pf7, .int .i64 pe7, .slice q7 n7 c7] 26 (0, 0))) := heap_alloc_new w7 _
  have k5 := (B8.block _ (Array.getElem?_eq_some_iff.1 R6.out).1).trans R6.out
  have u0 : (w7.alloc (.cells #[.int .i64 pf7, .int .i64 pe7, .slice q7 n7 c7] 26)).cell? ⟨b5, 0, none⟩ = some (.int .i64 pf5) := by rw [cell_of_row _ _ _ _ _ _ k5]; rfl
  have u1 : (w7.alloc (.cells #[.int .i64 pf7, .int .i64 pe7, .slice q7 n7 c7] 26)).cell? ⟨b5, 1, none⟩ = some (.int .i64 pe5) := by rw [cell_of_row _ _ _ _ _ _ k5]; rfl
  have u2 : (w7.alloc (.cells #[.int .i64 pf7, .int .i64 pe7, .slice q7 n7 c7] 26)).cell? ⟨b5, 2, none⟩ = some (.slice q5 n5 c5) := by rw [cell_of_row _ _ _ _ _ _ k5]; rfl
  have H18b : Calls Try.prog 18 #[.agg #[.int .i64 pf5, .int .i64 pe5, .slice q5 n5 c5], .agg #[.int .i64 1, .int .i64 2, .int .i64 1, .slice (some ⟨w1.heap.size + 1, 0, none⟩) 1 1, .slice none 0 0, .int .i64 0, .int .i64 0, .int .i64 0, .slice none 0 0]] (w7.alloc (.cells #[.int .i64 pf7, .int .i64 pe7, .slice q7 n7 c7] 26)) fun x w' => x = .returned (.int .i64 0) ∧ Hid (Below (w7.alloc (.cells #[.int .i64 pf7, .int .i64 pe7, .slice q7 n7 c7] 26)).heap.size (w7.alloc (.cells #[.int .i64 pf7, .int .i64 pe7, .slice q7 n7 c7] 26)) w') := may_told _ _ _ _ _ (T6.out.below B8) (HALL.out _ B38.out).2.1
  obtain ⟨-, -, -, f0, f1, f2, f3, f4, f5, f6, f7, f8⟩ := HALL.out _ B38.out
  clear A7 B8 T7 k5 T6 R6 B6
  have HSV : Hid (∀ w9, Below (w7.alloc (.cells #[.int .i64 pf7, .int .i64 pe7, .slice q7 n7 c7] 26)).heap.size (w7.alloc (.cells #[.int .i64 pf7, .int .i64 pe7, .slice q7 n7 c7] 26)) w9 → Below w.heap.size w w9 ∧ Told2 w9 (.agg #[.int .i64 pf7, .int .i64 pe7, .slice q7 n7 c7]) 0 (fun x => if x = 2 then 1 else if x = 2 then 2 else if 1 = x then 7 else 0) ∧ EnIs w9 (.agg #[.int .i64 1, .int .i64 2, .int .i64 1, .slice (some ⟨w1.heap.size + 1, 0, none⟩) 1 1, .slice none 0 0, .int .i64 0, .int .i64 0, .int .i64 0, .slice none 0 0]) ⟨1, 2, 1, [97], [], 0, 0, 0, []⟩ ∧ (w9.cell? ⟨w7.heap.size, 0, none⟩ = some (.int .i64 pf7) ∧ w9.cell? ⟨w7.heap.size, 1, none⟩ = some (.int .i64 pe7) ∧ w9.cell? ⟨w7.heap.size, 2, none⟩ = some (.slice q7 n7 c7)) ∧ (w9.cell? ⟨(w1.heap.size + 2), 0, none⟩ = some (.int .i64 1) ∧ w9.cell? ⟨(w1.heap.size + 2), 1, none⟩ = some (.int .i64 2) ∧ w9.cell? ⟨(w1.heap.size + 2), 2, none⟩ = some (.int .i64 1) ∧ w9.cell? ⟨(w1.heap.size + 2), 3, none⟩ = some (.slice (some ⟨w1.heap.size + 1, 0, none⟩) 1 1) ∧ w9.cell? ⟨(w1.heap.size + 2), 4, none⟩ = some (.slice none 0 0) ∧ w9.cell? ⟨(w1.heap.size + 2), 5, none⟩ = some (.int .i64 0) ∧ w9.cell? ⟨(w1.heap.size + 2), 6, none⟩ = some (.int .i64 0) ∧ w9.cell? ⟨(w1.heap.size + 2), 7, none⟩ = some (.int .i64 0) ∧ w9.cell? ⟨(w1.heap.size + 2), 8, none⟩ = some (.slice none 0 0))) := fun w9 hb => by
    have h39 := B38.out.trans (bel_le hb B38.out.size)
    obtain ⟨m1, m2, -, m3⟩ := HALL.out w9 h39
    have k8 := (hb.block _ (Array.getElem?_eq_some_iff.1 R8.out).1).trans R8.out
    refine ⟨m1, T8.out.below hb, m2, ⟨?_, ?_, ?_⟩, m3⟩
    all_goals (rw [cell_of_row _ _ _ _ _ _ k8]; rfl)
  go_wp2_with fail
  refine H18b.mono ?_
  rintro x w9 ⟨rfl, B9⟩
  clear H18b u0 u1 u2 f0 f1 f2 f3 f4 f5 f6 f7 f8
  obtain ⟨-, T9, E9', ⟨d0, d1, d2⟩, f0, f1, f2, f3, f4, f5, f6, f7, f8⟩ := HSV.out w9 B9.out
  have H18c : Calls Try.prog 18 #[.agg #[.int .i64 pf7, .int .i64 pe7, .slice q7 n7 c7], .agg #[.int .i64 1, .int .i64 2, .int .i64 1, .slice (some ⟨w1.heap.size + 1, 0, none⟩) 1 1, .slice none 0 0, .int .i64 0, .int .i64 0, .int .i64 0, .slice none 0 0]] w9 fun x w' => x = .returned (.int .i64 30) ∧ Hid (Below w9.heap.size w9 w') := may_told _ _ _ _ _ T9 E9'
  clear T9 E9'
  go_wp2_with fail
  refine H18c.mono ?_
  rintro x w10 ⟨rfl, B10⟩
  clear H18c d0 d1 d2 f0 f1 f2 f3 f4 f5 f6 f7 f8
  obtain ⟨-, T10, -, ⟨d0, d1, d2⟩, -⟩ := HSV.out w10 (B9.out.trans (bel_le B10.out B9.out.size))
  have H22 : Calls Try.prog 22 #[.agg #[.int .i64 pf7, .int .i64 pe7, .slice q7 n7 c7]] w10 fun x w' => ∃ q9 c9, x = .returned (.slice q9 2 c9) ∧ Hid (Below w10.heap.size w10 w') := by
    obtain ⟨p, h1, h2, h3, h4, h5⟩ := T10
    have hrd := rdrs_two h2 (by rw [h5]; decide) (by rw [h5]; decide) (fun x h6 h7 => by rw [h5]; show (if x = 2 then (1 : Int) else if x = 2 then 2 else if 1 = x then 7 else 0) = 0; rw [if_neg h7, if_neg h7, if_neg (fun e => h6 e.symm)])
    obtain ⟨_, _, hm, _, hne⟩ := pright_of h2
    have h := Readers_any p _ w10 h1 hm hne
    rw [hrd] at h
    refine h.mono ?_
    rintro x w' ⟨v, rfl, k1, k2⟩
    obtain ⟨q9, c9, rfl⟩ := own_slice k1
    exact ⟨q9, c9, rfl, k2⟩
  clear T10
  have HLAST : Hid (∀ w11, Below w10.heap.size w10 w11 → Below w.heap.size w w11) := fun w11 hb => (HSV.out w11 ((B9.out.trans (bel_le B10.out B9.out.size)).trans (bel_le hb (Nat.le_trans B9.out.size B10.out.size)))).1
  go_wp2_with fail
  refine H22.mono ?_
  rintro x w11 ⟨q9, c9, rfl, B11⟩
  go_wp2_with fail
  go_ret
  exact ⟨rfl, HLAST.out _ B11.out⟩
end Go.Proofs.Ytmlnbbggfjgacaa.P10
