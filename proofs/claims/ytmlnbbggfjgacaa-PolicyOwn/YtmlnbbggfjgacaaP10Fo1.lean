/- The walk of PolicyFounder. -/
import Derived.Test.YtmlnbbggfjgacaaP10Fo0
namespace Go.Proofs.Ytmlnbbggfjgacaa.P10
open Go.RowKit C8 E9
/-- The founder's policy in its box. -/
structure PF (w W : World) (b : Nat) (f e : Int) (q : Option Addr) (nn c : Nat) (R : Int → Int) : Prop where
  bel : Below w.heap.size w W
  lo : w.heap.size ≤ b
  box : W.heap[b]? = some (.cells #[.int .i64 f, .int .i64 e, .slice q nn c] 26 (0, 0))
  told : Told4 0 W f e q nn c R
/-- While an entry is looked at: the policy, the entry, the policy behind it. -/
structure IF (w W : World) (b b8 b9 B : Nat) (f e e1 : Int) (q q1 : Option Addr) (nn c n1 c1 : Nat) (R R1 : Int → Int) (E : Array Value) : Prop where
  pf : PF w W b f e q nn c R
  bq : W.heap[b9]? = some (.cells #[.int .i64 f, .int .i64 e1, .slice q1 n1 c1] 26 (0, 0))
  tq : Told4 B W f e1 q1 n1 c1 R1
  be : W.heap[b8]? = some (.cells E 38 (0, 0))
  lt : b < B
section
variable {w W W' : World} {b b8 b9 B : Nat} {f e e1 : Int} {q q1 : Option Addr} {nn c n1 c1 : Nat} {R R1 : Int → Int} {E : Array Value}
theorem PF.step (h : PF w W b f e q nn c R) (hb : Below W.heap.size W W') : PF w W' b f e q nn c R :=
  ⟨h.bel.trans (bel_le hb h.bel.size), h.lo, (hb.block _ (Array.getElem?_eq_some_iff.1 h.box).1).trans h.box, h.told.below hb⟩
theorem PF.lt (h : PF w W b f e q nn c R) : b < W.heap.size := (Array.getElem?_eq_some_iff.1 h.box).1
theorem PF.cells (h : PF w W b f e q nn c R) : W.cell? ⟨b, 0, none⟩ = some (.int .i64 f) ∧ W.cell? ⟨b, 1, none⟩ = some (.int .i64 e) ∧ W.cell? ⟨b, 2, none⟩ = some (.slice q nn c) ∧ W.frozen? ⟨b, 0, none⟩ = false ∧ W.frozen? ⟨b, 1, none⟩ = false ∧ W.frozen? ⟨b, 2, none⟩ = false :=
  ⟨by rw [cell_of_row _ _ _ _ _ _ h.box]; rfl, by rw [cell_of_row _ _ _ _ _ _ h.box]; rfl, by rw [cell_of_row _ _ _ _ _ _ h.box]; rfl, frozen_of_row _ _ _ _ _ h.box, frozen_of_row _ _ _ _ _ h.box, frozen_of_row _ _ _ _ _ h.box⟩
theorem IF.step (h : IF w W b b8 b9 B f e e1 q q1 nn c n1 c1 R R1 E) (hb : Below W.heap.size W W') : IF w W' b b8 b9 B f e e1 q q1 nn c n1 c1 R R1 E :=
  ⟨h.pf.step hb, (hb.block _ (Array.getElem?_eq_some_iff.1 h.bq).1).trans h.bq, h.tq.below hb, (hb.block _ (Array.getElem?_eq_some_iff.1 h.be).1).trans h.be, h.lt⟩
theorem IF.qcells (h : IF w W b b8 b9 B f e e1 q q1 nn c n1 c1 R R1 E) : W.cell? ⟨b9, 0, none⟩ = some (.int .i64 f) ∧ W.cell? ⟨b9, 1, none⟩ = some (.int .i64 e1) ∧ W.cell? ⟨b9, 2, none⟩ = some (.slice q1 n1 c1) :=
  ⟨by rw [cell_of_row _ _ _ _ _ _ h.bq]; rfl, by rw [cell_of_row _ _ _ _ _ _ h.bq]; rfl, by rw [cell_of_row _ _ _ _ _ _ h.bq]; rfl⟩
theorem IF.next (h : IF w W b b8 b9 B f e e1 q q1 nn c n1 c1 R R1 E) : PF w (((W.setCell ⟨b, 0, none⟩ (.int .i64 f)).setCell ⟨b, 1, none⟩ (.int .i64 e1)).setCell ⟨b, 2, none⟩ (.slice q1 n1 c1)) b f e1 q1 n1 c1 R1 := by
  have o3 := only3 W b (.int .i64 f) (.int .i64 e1) (.slice q1 n1 c1)
  exact ⟨h.pf.bel.trans (o3.below h.pf.bel.size (by have := h.pf.lo; simp; omega)), h.pf.lo, row3 h.pf.box _ _ _, (h.tq.only o3 (by simpa using h.lt)).old (Nat.zero_le _)⟩
theorem PF.start {n : Int} (hb : Below w.heap.size w W) (hT : Told4 0 W n 0 q 1 c R) : PF w (W.alloc (.cells #[.int .i64 n, .int .i64 0, .slice q 1 c] 26)) W.heap.size n 0 q 1 c R :=
  ⟨hb.trans (bel_alloc hb.size _), hb.size, heap_alloc_new W _, hT.below (bel_alloc (Nat.le_refl _) _)⟩
end
set_option maxHeartbeats 4000000 in
theorem fo_many (w : World) (fo : Int) (a1 : Option Addr) (n c1 : Nat) (hn : n ≤ 9223372036854775807) (h : 40 < n) : Calls Try.prog 5 #[.int .i64 fo, .slice a1 n c1] w fun x w' => x = .returned (.bool true) ∧ Below w.heap.size w w' := by
  have HC9 : ∀ W, W = w → Calls Try.prog 9 #[] W fun x w' => x = .returned (.bool true) ∧ Hid (Below w.heap.size w w') := by rintro W rfl; exact anchor_any W
  have k1 : (40 : Int) < (n : Int) := by omega
  go_enter Try.func5, Try.ntmps5
  go_wp2_with (first | (go_at_call 9; refine (HC9 _ rfl).mono ?_; rintro x w1 ⟨rfl, B1⟩))
  go_ret
  exact ⟨rfl, B1.out⟩
set_option maxHeartbeats 4000000 in
theorem fo_bad (w : World) (fo : Int) (a1 : Option Addr) (n c1 : Nat) (h : n ≤ 40) (hf : fo < 1 ∨ 16 < fo) : Calls Try.prog 5 #[.int .i64 fo, .slice a1 n c1] w fun x w' => x = .returned (.bool true) ∧ Below w.heap.size w w' := by
  have HC9 : ∀ W, W = w → Calls Try.prog 9 #[] W fun x w' => x = .returned (.bool true) ∧ Hid (Below w.heap.size w w') := by rintro W rfl; exact anchor_any W
  have HC10 : ∀ W, Hid (Below w.heap.size w W) → Calls Try.prog 10 #[.int .i64 fo] W fun x w' => x = .returned (.tuple #[.agg #[.int .i64 0, .int .i64 0, .slice none 0 0], .int .i64 10]) ∧ Hid (∀ o, Below w.heap.size w (w'.alloc o)) := fun W hW => (First_bad fo W hf).mono (by
    rintro x w' ⟨rfl, hb⟩
    have hb2 := hW.out.trans (bel_le hb hW.out.size)
    exact ⟨rfl, fun o => hb2.trans (bel_alloc hb2.size o)⟩)
  have k1 : ¬ (40 : Int) < (n : Int) := by omega
  clear hf
  go_enter Try.func5, Try.ntmps5
  go_wp2_with (first | (go_at_call 9; refine (HC9 _ rfl).mono ?_; rintro x w1 ⟨rfl, B1⟩) | (go_at_call 10; refine (HC10 _ B1).mono ?_; rintro x w2 ⟨rfl, B2⟩))
  go_ret
  exact ⟨rfl, B2.out _⟩
set_option maxHeartbeats 16000000 in
set_option maxRecDepth 20000 in
theorem fo_main (w : World) (fo : Int) (a1 : Option Addr) (es : List En) (ca : Nat) (h1 : EnRow w a1 es) (hn : es.length ≤ 40) (hf : 1 ≤ fo ∧ fo ≤ 16) : Calls Try.prog 5 #[.int .i64 fo, .slice a1 es.length ca] w fun x w' => x = .returned (.bool true) ∧ Below w.heap.size w w' := by
  have HC9 : ∀ W, W = w → Calls Try.prog 9 #[] W fun x w' => x = .returned (.bool true) ∧ Hid (Below w.heap.size w w') := by rintro W rfl; exact anchor_any W
  have HC10 : ∀ W, Hid (Below w.heap.size w W) → Calls Try.prog 10 #[.int .i64 fo] W fun x w' => ∃ q c, x = .returned (.tuple #[.agg #[.int .i64 fo, .int .i64 0, .slice q 1 c], .int .i64 0]) ∧ Hid (PF w (w'.alloc (.cells #[.int .i64 fo, .int .i64 0, .slice q 1 c] 26)) w'.heap.size fo 0 q 1 c (fun x => if fo = x then 7 else 0)) := fun W hW => (first_fo fo W hf).mono (by
    rintro x w' ⟨q, c, rfl, k1, k2⟩
    exact ⟨q, c, rfl, PF.start (hW.out.trans (bel_le k2 hW.out.size)) (k1.old (Nat.zero_le _))⟩)
  have HA : Hid (∀ W, Below w.heap.size w W → EnRow W a1 es) := fun W hW => h1.below hW
  have f1' : (1 : Int) ≤ fo := hf.1
  have f2' : fo ≤ 16 := hf.2
  clear h1 hf
  obtain ⟨n, HN⟩ : ∃ n, Hid (es.length = n) := ⟨_, rfl⟩
  rw [HN.out] at hn ⊢
  have n40 : (n : Int) ≤ 40 := by omega
  go_enter Try.func5, Try.ntmps5
  go_wp2_with (first | (go_at_call 9; refine (HC9 _ rfl).mono ?_; rintro x w1 ⟨rfl, B1⟩))
  refine (HC10 _ B1).mono ?_
  rintro x w2 ⟨q0, c0, rfl, G0⟩
  clear HC9 HC10 B1
  go_wp2_with fail
  generalize w2.alloc (.cells #[.int .i64 fo, .int .i64 0, .slice q0 1 c0] 26) = W0 at *
  generalize w2.heap.size = b5 at *
  go_loopw [26] (fun i wr => ∃ (j : Nat) (e : Int) (q : Option Addr) (nn c : Nat) (R : Int → Int), j ≤ n ∧ i = .int .i64 j ∧ Hid (PF w wr b5 fo e q nn c R)) (fun i _ => n - (intOf i).toNat)
  case atStart => exact ⟨0, 0, q0, 1, c0, _, by omega, rfl, G0⟩
  case round =>
    obtain ⟨j, e, q, nn, c, R, hj, rfl, GJ⟩ := hrel
    clear G0
    have j0 : (0 : Int) ≤ (j : Int) := by omega
    by_cases hlt : j < n
    · have j1 : (j : Int) < (n : Int) := by omega
      obtain ⟨bb, ob, np, nc, vp, vc, wq, wc, rfl, k2, k3, k4⟩ := (HA.out wr GJ.out.bel) j (by rw [HN.out]; exact hlt)
      generalize es[j]'(by rw [HN.out]; exact hlt) = en at *
      have HEN : Hid (∀ W, Below wr.heap.size wr W → EnIs W (.agg (EnV en np nc vp vc wq wc)) en) := fun W hb => k4.below hb
      clear k4
      have HSM : Hid (∀ W, Below wr.heap.size wr W → Calls Try.prog 13 #[.agg (EnV en np nc vp vc wq wc)] W fun z u => z = .returned (.bool (small en)) ∧ Below W.heap.size W u) := fun W hb => small_any en _ W (HEN.out W hb)
      have HAP : Hid (∀ W, Below wr.heap.size wr W → Calls Try.prog 14 #[.agg #[.int .i64 fo, .int .i64 e, .slice q nn c], .agg (EnV en np nc vp vc wq wc)] W fun z u => ApTold en fo e R W z u) := fun W hb => apply_told en _ fo e q nn c 0 R W (GJ.out.step hb).told (HEN.out W hb)
      obtain ⟨E0, HE0⟩ : ∃ E0, Hid (en = E0) := ⟨_, rfl⟩
      have HAP2 : Hid (∀ W, Below wr.heap.size wr W → Calls Try.prog 14 #[.agg #[.int .i64 fo, .int .i64 e, .slice q nn c], .agg (EnV en np nc vp vc wq wc)] W fun z u => ApTold E0 fo e R W z u) := HE0.out ▸ HAP.out
      have HWW : Hid (en.writer = E0.writer ∧ en.who = E0.who) := HE0.out ▸ ⟨rfl, rfl⟩
      obtain ⟨sm, HS⟩ : ∃ sm, Hid (small en = sm) := ⟨_, rfl⟩
      rw [HS.out] at HSM
      clear HAP HEN HE0 HS
      obtain ⟨a1, a2, a3, a4, a5, a6, a7, a8, a9⟩ := en
      simp only [EnV] at k3 HSM HAP2 HWW
      generalize a4.length = l4 at *
      generalize a5.length = l5 at *
      generalize a9.length = l9 at *
      have d0 : wr.cell? ⟨bb, ob + j * 9, none⟩ = some (.int .i64 a1) := k3 0 _ rfl
      have d1 : wr.cell? ⟨bb, ob + j * 9 + 1, none⟩ = some (.int .i64 a2) := k3 1 _ rfl
      have d2 : wr.cell? ⟨bb, ob + j * 9 + 2, none⟩ = some (.int .i64 a3) := k3 2 _ rfl
      have d3 : wr.cell? ⟨bb, ob + j * 9 + 3, none⟩ = some (.slice np l4 nc) := k3 3 _ rfl
      have d4 : wr.cell? ⟨bb, ob + j * 9 + 4, none⟩ = some (.slice vp l5 vc) := k3 4 _ rfl
      have d5 : wr.cell? ⟨bb, ob + j * 9 + 5, none⟩ = some (.int .i64 a6) := k3 5 _ rfl
      have d6 : wr.cell? ⟨bb, ob + j * 9 + 6, none⟩ = some (.int .i64 a7) := k3 6 _ rfl
      have d7 : wr.cell? ⟨bb, ob + j * 9 + 7, none⟩ = some (.int .i64 a8) := k3 7 _ rfl
      have d8 : wr.cell? ⟨bb, ob + j * 9 + 8, none⟩ = some (.slice wq l9 wc) := k3 8 _ rfl
      clear k3
      have HB8 : Hid (Below wr.heap.size wr (wr.alloc (.cells #[.int .i64 a1, .int .i64 a2, .int .i64 a3, .slice np l4 nc, .slice vp l5 vc, .int .i64 a6, .int .i64 a7, .int .i64 a8, .slice wq l9 wc] 38))) := bel_alloc (Nat.le_refl _) _
      have R8 : Hid ((wr.alloc (.cells #[.int .i64 a1, .int .i64 a2, .int .i64 a3, .slice np l4 nc, .slice vp l5 vc, .int .i64 a6, .int .i64 a7, .int .i64 a8, .slice wq l9 wc] 38)).heap[wr.heap.size]? = some (.cells #[.int .i64 a1, .int .i64 a2, .int .i64 a3, .slice np l4 nc, .slice vp l5 vc, .int .i64 a6, .int .i64 a7, .int .i64 a8, .slice wq l9 wc] 38 (0, 0))) := heap_alloc_new wr _
      have H13 : Calls Try.prog 13 #[.agg #[.int .i64 a1, .int .i64 a2, .int .i64 a3, .slice np l4 nc, .slice vp l5 vc, .int .i64 a6, .int .i64 a7, .int .i64 a8, .slice wq l9 wc]] (wr.alloc (.cells #[.int .i64 a1, .int .i64 a2, .int .i64 a3, .slice np l4 nc, .slice vp l5 vc, .int .i64 a6, .int .i64 a7, .int .i64 a8, .slice wq l9 wc] 38)) fun z u => z = .returned (.bool sm) ∧ Hid (Below (wr.alloc (.cells #[.int .i64 a1, .int .i64 a2, .int .i64 a3, .slice np l4 nc, .slice vp l5 vc, .int .i64 a6, .int .i64 a7, .int .i64 a8, .slice wq l9 wc] 38)).heap.size (wr.alloc (.cells #[.int .i64 a1, .int .i64 a2, .int .i64 a3, .slice np l4 nc, .slice vp l5 vc, .int .i64 a6, .int .i64 a7, .int .i64 a8, .slice wq l9 wc] 38)) u) := HSM.out _ HB8.out
      go_wp2_with fail
      refine H13.mono ?_
      rintro z w3 ⟨rfl, B3⟩
      have HB3 : Hid (Below wr.heap.size wr w3) := HB8.out.trans (bel_le B3.out HB8.out.size)
      have R3 : Hid (w3.heap[wr.heap.size]? = some (.cells #[.int .i64 a1, .int .i64 a2, .int .i64 a3, .slice np l4 nc, .slice vp l5 vc, .int .i64 a6, .int .i64 a7, .int .i64 a8, .slice wq l9 wc] 38 (0, 0))) := (B3.out.block _ (Array.getElem?_eq_some_iff.1 R8.out).1).trans R8.out
      clear H13 HSM R8 d0 d1 d2 d3 d4 d5 d6 d7 d8
      cases sm with
      | false =>
        have HBW : Hid (Below w.heap.size w w3) := (GJ.out.step HB3.out).bel
        go_wp2_with fail
        go_ret
        exact ⟨rfl, HBW.out⟩
      | true =>
        have G3 : Hid (PF w w3 b5 fo e q nn c R) := GJ.out.step HB3.out
        have H14 : Calls Try.prog 14 #[.agg #[.int .i64 fo, .int .i64 e, .slice q nn c], .agg #[.int .i64 a1, .int .i64 a2, .int .i64 a3, .slice np l4 nc, .slice vp l5 vc, .int .i64 a6, .int .i64 a7, .int .i64 a8, .slice wq l9 wc]] w3 fun z u => ApTold E0 fo e R w3 z u := HAP2.out w3 HB3.out
        have HL8 : Hid (b5 < w3.heap.size) := G3.out.lt
        obtain ⟨g0, g1, g2, -, -, -⟩ := G3.out.cells
        have d0 : w3.cell? ⟨wr.heap.size, 0, none⟩ = some (.int .i64 a1) := by rw [cell_of_row _ _ _ _ _ _ R3.out]; rfl
        have d1 : w3.cell? ⟨wr.heap.size, 1, none⟩ = some (.int .i64 a2) := by rw [cell_of_row _ _ _ _ _ _ R3.out]; rfl
        have d2 : w3.cell? ⟨wr.heap.size, 2, none⟩ = some (.int .i64 a3) := by rw [cell_of_row _ _ _ _ _ _ R3.out]; rfl
        have d3 : w3.cell? ⟨wr.heap.size, 3, none⟩ = some (.slice np l4 nc) := by rw [cell_of_row _ _ _ _ _ _ R3.out]; rfl
        have d4 : w3.cell? ⟨wr.heap.size, 4, none⟩ = some (.slice vp l5 vc) := by rw [cell_of_row _ _ _ _ _ _ R3.out]; rfl
        have d5 : w3.cell? ⟨wr.heap.size, 5, none⟩ = some (.int .i64 a6) := by rw [cell_of_row _ _ _ _ _ _ R3.out]; rfl
        have d6 : w3.cell? ⟨wr.heap.size, 6, none⟩ = some (.int .i64 a7) := by rw [cell_of_row _ _ _ _ _ _ R3.out]; rfl
        have d7 : w3.cell? ⟨wr.heap.size, 7, none⟩ = some (.int .i64 a8) := by rw [cell_of_row _ _ _ _ _ _ R3.out]; rfl
        have d8 : w3.cell? ⟨wr.heap.size, 8, none⟩ = some (.slice wq l9 wc) := by rw [cell_of_row _ _ _ _ _ _ R3.out]; rfl
        clear GJ HAP2 HB3 HB8 B3
        generalize wr.heap.size = b8 at *
        go_wp2_with fail
        refine H14.mono ?_
        rintro z w5 ⟨B5, hz⟩
        have B5H : Hid (Below w3.heap.size w3 w5) := B5
        clear H14 B5 g0 g1 g2 d0 d1 d2 d3 d4 d5 d6 d7 d8
        rcases hz with ⟨r, hr, rfl⟩ | ⟨e1, q1, n1, c1', rfl, hT, he1, h7, hdif⟩
        · have hr0 : (r != 0) = true := by simp [hr]
          have G6 : Hid (∀ o, PF w (w5.alloc o) b5 fo e q nn c R) := fun o => (G3.out.step B5H.out).step (bel_alloc (Nat.le_refl _) o)
          clear G3 R3 B5H hr
          go_wp2_with fail
          refine ⟨⟨j + 1, e, q, nn, c, R, by omega, by simp, G6.out _⟩, ?_⟩
          simp only [intOf]
          omega
        · obtain ⟨R1, HR1⟩ : ∃ R1 : Int → Int, Hid (raf E0 R = R1) := ⟨_, rfl⟩
          rw [HR1.out] at hT h7 hdif
          have HAL : Below w5.heap.size w5 (w5.alloc (.cells #[.int .i64 fo, .int .i64 e1, .slice q1 n1 c1'] 26)) := bel_alloc (Nat.le_refl _) _
          have I6 : Hid (IF w (w5.alloc (.cells #[.int .i64 fo, .int .i64 e1, .slice q1 n1 c1'] 26)) b5 b8 w5.heap.size w3.heap.size fo e e1 q q1 nn c n1 c1' R R1 #[.int .i64 a1, .int .i64 a2, .int .i64 a3, .slice np l4 nc, .slice vp l5 vc, .int .i64 a6, .int .i64 a7, .int .i64 a8, .slice wq l9 wc]) := by
            have R5 := (B5H.out.block _ (Array.getElem?_eq_some_iff.1 R3.out).1).trans R3.out
            exact ⟨(G3.out.step B5H.out).step HAL, heap_alloc_new w5 _, hT.below HAL, (HAL.block _ (Array.getElem?_eq_some_iff.1 R5).1).trans R5, HL8.out⟩
          have HD : Hid (∀ x, R1 x ≠ R x → x = a6 ∧ x ≠ fo ∧ 4 ≤ R a2) := fun x hx => by have := hdif x hx; rw [← HWW.out.1, ← HWW.out.2] at this; exact this
          have H21 : Calls Try.prog 21 #[.agg #[.int .i64 fo, .int .i64 e1, .slice q1 n1 c1'], .int .i64 fo] (w5.alloc (.cells #[.int .i64 fo, .int .i64 e1, .slice q1 n1 c1'] 26)) fun z u => z = .returned (.int .i64 7) ∧ Hid (Below (w5.alloc (.cells #[.int .i64 fo, .int .i64 e1, .slice q1 n1 c1'] 26)).heap.size (w5.alloc (.cells #[.int .i64 fo, .int .i64 e1, .slice q1 n1 c1'] 26)) u) := by
            have h := I6.out.tq.rights fo
            rw [h7] at h
            exact h
          clear HAL hT h7 hdif HR1 B5H G3 R3 HWW HL8
          have he2 : ¬ e1 < e := by omega
          have he3 : ¬ e + 1 < e1 := by omega
          have HEB : Hid (0 ≤ e ∧ e ≤ 16) := by
            obtain ⟨p, _, h2, _, h4, _⟩ := I6.out.pf.told.is
            rw [← h4]
            exact (pright_of h2).2.1
          have eb1 : -1000 ≤ e := by have := HEB.out; omega
          have eb2 : e ≤ 1000 := by have := HEB.out; omega
          go_wp2_with fail
          refine H21.mono ?_
          clear H21
          generalize w5.alloc (.cells #[.int .i64 fo, .int .i64 e1, .slice q1 n1 c1'] 26) = W6 at *
          generalize w5.heap.size = b9 at *
          generalize w3.heap.size = B9 at *
          rintro z w7 ⟨rfl, B7⟩
          have I7 : Hid (IF w w7 b5 b8 b9 B9 fo e e1 q q1 nn c n1 c1' R R1 #[.int .i64 a1, .int .i64 a2, .int .i64 a3, .slice np l4 nc, .slice vp l5 vc, .int .i64 a6, .int .i64 a7, .int .i64 a8, .slice wq l9 wc]) := I6.out.step B7.out
          obtain ⟨u0, u1, u2⟩ := I7.out.qcells
          obtain ⟨g0, g1, g2, -, -, -⟩ := I7.out.pf.cells
          clear B7 I6
          go_wp2_with fail
          go_loopw [11] (fun i wr => ∃ k : Nat, 1 ≤ k ∧ k ≤ 17 ∧ i = .int .i64 k ∧ Hid (IF w wr b5 b8 b9 B9 fo e e1 q q1 nn c n1 c1' R R1 #[.int .i64 a1, .int .i64 a2, .int .i64 a3, .slice np l4 nc, .slice vp l5 vc, .int .i64 a6, .int .i64 a7, .int .i64 a8, .slice wq l9 wc])) (fun i _ => 17 - (intOf i).toNat)
          case atStart => exact ⟨1, by omega, by omega, rfl, I7⟩
          case round =>
            obtain ⟨k, hk1, hk2, rfl, IK⟩ := hrel
            clear I7 u0 u1 u2 g0 g1 g2
            by_cases hk3 : k ≤ 16
            · have k1 : (k : Int) ≤ 16 := by omega
              obtain ⟨CQ, HCQ0⟩ : ∃ CQ : Array Value, Hid (#[.int .i64 fo, .int .i64 e1, .slice q1 n1 c1'] = CQ) := ⟨_, rfl⟩
              obtain ⟨CP, HCP0⟩ : ∃ CP : Array Value, Hid (#[.int .i64 fo, .int .i64 e, .slice q nn c] = CP) := ⟨_, rfl⟩
              obtain ⟨rq, HRQ⟩ : ∃ rq, Hid (R1 k = rq) := ⟨_, rfl⟩
              obtain ⟨rp, HRP⟩ : ∃ rp, Hid (R k = rp) := ⟨_, rfl⟩
              obtain ⟨rw, HRW⟩ : ∃ rw, Hid (R a2 = rw) := ⟨_, rfl⟩
              have HBK : Hid (∀ w', Only [] wr w' → IF w w' b5 b8 b9 B9 fo e e1 q q1 nn c n1 c1' R R1 #[.int .i64 a1, .int .i64 a2, .int .i64 a3, .slice np l4 nc, .slice vp l5 vc, .int .i64 a6, .int .i64 a7, .int .i64 a8, .slice wq l9 wc]) := fun w' ho => IK.out.step (ho.below (Nat.le_refl _) (by simp))
              have HCQ : Hid (∀ w', Only [] wr w' → Calls Try.prog 21 #[.agg CQ, .int .i64 (k : Int)] w' fun z u => z = .returned (.int .i64 rq) ∧ Below w'.heap.size w' u) := by
                rw [← HCQ0.out, ← HRQ.out]
                exact fun w' ho => (HBK.out w' ho).tq.rights k
              have HCPP : Hid (∀ w', Only [] wr w' → Calls Try.prog 21 #[.agg CP, .int .i64 (k : Int)] w' fun z u => z = .returned (.int .i64 rp) ∧ Below w'.heap.size w' u) := by
                rw [← HCP0.out, ← HRP.out]
                exact fun w' ho => (HBK.out w' ho).pf.told.rights k
              have HCW : Hid (∀ w', Only [] wr w' → Calls Try.prog 21 #[.agg CP, .int .i64 a2] w' fun z u => z = .returned (.int .i64 rw) ∧ Below w'.heap.size w' u) := by
                rw [← HCP0.out, ← HRW.out]
                exact fun w' ho => (HBK.out w' ho).pf.told.rights a2
              have HM0 : Hid (∀ w', Only [] wr w' → (w'.heap[b9]? = some (.cells CQ 26 (0, 0)) ∧ CQ.size = 3) ∧ (w'.heap[b5]? = some (.cells CP 26 (0, 0)) ∧ CP.size = 3) ∧ w'.cell? ⟨b8, 1, none⟩ = some (.int .i64 a2) ∧ w'.cell? ⟨b8, 5, none⟩ = some (.int .i64 a6)) := by
                rw [← HCQ0.out, ← HCP0.out]
                exact fun w' ho => have h := HBK.out w' ho; ⟨⟨h.bq, rfl⟩, ⟨h.pf.box, rfl⟩, by rw [cell_of_row _ _ _ _ _ _ h.be]; rfl, by rw [cell_of_row _ _ _ _ _ _ h.be]; rfl⟩
              by_cases hq : rq = rp
              · subst hq
                have HCP := HCPP
                have HM : Hid (∀ w', Only [] wr w' → (w'.heap[b9]? = some (.cells CQ 26 (0, 0)) ∧ CQ.size = 3) ∧ (w'.heap[b5]? = some (.cells CP 26 (0, 0)) ∧ CP.size = 3)) := fun w' ho => ⟨(HM0.out w' ho).1, (HM0.out w' ho).2.1⟩
                clear IK HCQ0 HCP0 HRQ HRP HRW HCW HM0 HCPP
                obtain ⟨kk, HKK⟩ : ∃ kk : Int, Hid ((k : Int) = kk) := ⟨_, rfl⟩
                rw [HKK.out] at HCQ HCP
                rw [HKK.out] at k1 ⊢
                go_wp2_with fail
                have RB : ∀ k w w', Below w.heap.size w w' → (fun (_ : Nat) (_ : World) => True) k w → (fun (_ : Nat) (_ : World) => True) k w' := fun _ _ _ _ _ => trivial
                refine wp_region_st (fo20a CQ CP kk rq) (fun u u' => Only [] u u') (SeqS [] (fun (_ : Nat) (_ : World) => True)) (by kernel_rfl) (only_drew _ _) (only_trans _) (fo20a_kept CQ CP kk rq) (by kernel_rfl) (SeqS.start (trivial)) ?_ ?_
                · intro i o a' w' f hi inv hS hfi hfw hpre
                  have ho : Only [] wr w' := inv.grow
                  have hlt : i < 25 := (Array.getElem?_eq_some_iff.1 hi).1
                  obtain rfl|rfl|rfl|rfl|rfl|rfl|rfl|rfl|rfl|rfl|rfl|rfl|rfl|rfl|rfl|rfl|rfl|rfl|rfl|rfl|rfl|rfl|rfl|rfl|rfl : i = 0 ∨ i = 1 ∨ i = 2 ∨ i = 3 ∨ i = 4 ∨ i = 5 ∨ i = 6 ∨ i = 7 ∨ i = 8 ∨ i = 9 ∨ i = 10 ∨ i = 11 ∨ i = 12 ∨ i = 13 ∨ i = 14 ∨ i = 15 ∨ i = 16 ∨ i = 17 ∨ i = 18 ∨ i = 19 ∨ i = 20 ∨ i = 21 ∨ i = 22 ∨ i = 23 ∨ i = 24 := by omega
                  · obtain rfl := Option.some.inj hi
                    have h0 : a'.tmps.getD 9 undef = (.pointer (some ⟨b9, 0, none⟩)) := by rw [inv.old 9 (notDst_spec (by kernel_rfl))]; rfl
                    exact sq_value _ rfl rfl (load_run 26 9 b9 (0) _ rfl h0 (ld26 ((HM.out w' ho).1))) (Below.refl _ _) (by decide) hS RB rfl
                  · obtain rfl := Option.some.inj hi
                    exact sq_value _ rfl rfl rfl (Below.refl _ _) (by decide) hS RB (by show a'.tmps.getD 11 undef = _; rw [inv.old 11 (notDst_spec (by kernel_rfl))]; rfl)
                  · obtain rfl := Option.some.inj hi
                    have h0 : a'.tmps.getD 64 undef = _ := pre_of hpre 0 64 (by kernel_rfl) (by kernel_rfl)
                    have h1 : a'.tmps.getD 65 undef = _ := pre_of hpre 1 65 (by kernel_rfl) (by kernel_rfl)
                    refine sq_quiet 21 #[a'.tmps.getD 64 undef, a'.tmps.getD 65 undef] rfl rfl (by kernel_rfl) (by decide) hS ?_
                    rw [h0, h1]
                    exact (HCQ.out w' ho).mono (by rintro z u ⟨rfl, h2⟩; exact ⟨_, rfl, Only.of_below h2 _, (fun _ h => h), rfl⟩)
                  · obtain rfl := Option.some.inj hi
                    have h0 : a'.tmps.getD 5 undef = (.pointer (some ⟨b5, 0, none⟩)) := by rw [inv.old 5 (notDst_spec (by kernel_rfl))]; rfl
                    exact sq_value _ rfl rfl (load_run 26 5 b5 (0) _ rfl h0 (ld26 ((HM.out w' ho).2))) (Below.refl _ _) (by decide) hS RB rfl
                  · obtain rfl := Option.some.inj hi
                    exact sq_value _ rfl rfl rfl (Below.refl _ _) (by decide) hS RB (by show a'.tmps.getD 11 undef = _; rw [inv.old 11 (notDst_spec (by kernel_rfl))]; rfl)
                  · obtain rfl := Option.some.inj hi
                    have h0 : a'.tmps.getD 67 undef = _ := pre_of hpre 3 67 (by kernel_rfl) (by kernel_rfl)
                    have h1 : a'.tmps.getD 68 undef = _ := pre_of hpre 4 68 (by kernel_rfl) (by kernel_rfl)
                    refine sq_quiet 21 #[a'.tmps.getD 67 undef, a'.tmps.getD 68 undef] rfl rfl (by kernel_rfl) (by decide) hS ?_
                    rw [h0, h1]
                    exact (HCP.out w' ho).mono (by rintro z u ⟨rfl, h2⟩; exact ⟨_, rfl, Only.of_below h2 _, (fun _ h => h), rfl⟩)
                  · obtain rfl := Option.some.inj hi
                    have h0 : a'.tmps.getD 66 undef = _ := pre_of hpre 2 66 (by kernel_rfl) (by kernel_rfl)
                    have h1 : a'.tmps.getD 69 undef = _ := pre_of hpre 5 69 (by kernel_rfl) (by kernel_rfl)
                    exact sq_value _ rfl rfl (neqN_run 66 69 _ _ rfl h0 h1) (Below.refl _ _) (by decide) hS RB (by show Value.bool _ = _; simp)
                  · obtain rfl := Option.some.inj hi
                    have h0 := pre_of hpre 6 70 (by kernel_rfl) (by kernel_rfl)
                    exact sq_value _ rfl rfl (rfl) (Below.refl _ _) (by decide) hS RB h0
                  · obtain rfl := Option.some.inj hi
                    have hgu : a'.tmps.getD 71 undef = _ := pre_of hpre 7 71 (by kernel_rfl) (by kernel_rfl)
                    exact sq_skip rfl (unwanted_of 7 71 false rfl (by kernel_rfl) hgu) (by decide) hS rfl
                  · obtain rfl := Option.some.inj hi
                    have hgu : a'.tmps.getD 71 undef = _ := pre_of hpre 7 71 (by kernel_rfl) (by kernel_rfl)
                    exact sq_skip rfl (unwanted_of 7 71 false rfl (by kernel_rfl) hgu) (by decide) hS rfl
                  · obtain rfl := Option.some.inj hi
                    have hgu : a'.tmps.getD 71 undef = _ := pre_of hpre 7 71 (by kernel_rfl) (by kernel_rfl)
                    exact sq_skip rfl (unwanted_of 7 71 false rfl (by kernel_rfl) hgu) (by decide) hS rfl
                  · obtain rfl := Option.some.inj hi
                    have hgu : a'.tmps.getD 71 undef = _ := pre_of hpre 7 71 (by kernel_rfl) (by kernel_rfl)
                    exact sq_skip rfl (unwanted_of 7 71 false rfl (by kernel_rfl) hgu) (by decide) hS rfl
                  · obtain rfl := Option.some.inj hi
                    have hgu : a'.tmps.getD 71 undef = _ := pre_of hpre 7 71 (by kernel_rfl) (by kernel_rfl)
                    exact sq_skip rfl (unwanted_of 7 71 false rfl (by kernel_rfl) hgu) (by decide) hS rfl
                  · obtain rfl := Option.some.inj hi
                    have hgu : a'.tmps.getD 71 undef = _ := pre_of hpre 7 71 (by kernel_rfl) (by kernel_rfl)
                    exact sq_skip rfl (unwanted_of 7 71 false rfl (by kernel_rfl) hgu) (by decide) hS rfl
                  · obtain rfl := Option.some.inj hi
                    have hgu : a'.tmps.getD 77 undef = _ := pre_of hpre 13 77 (by kernel_rfl) (by kernel_rfl)
                    exact sq_skip rfl (unwanted_undef 13 77 _ rfl (by kernel_rfl) hgu) (by decide) hS rfl
                  · obtain rfl := Option.some.inj hi
                    have hgu : a'.tmps.getD 77 undef = _ := pre_of hpre 13 77 (by kernel_rfl) (by kernel_rfl)
                    exact sq_skip rfl (unwanted_undef 13 77 _ rfl (by kernel_rfl) hgu) (by decide) hS rfl
                  · obtain rfl := Option.some.inj hi
                    have hgu : a'.tmps.getD 77 undef = _ := pre_of hpre 13 77 (by kernel_rfl) (by kernel_rfl)
                    exact sq_skip rfl (unwanted_undef 13 77 _ rfl (by kernel_rfl) hgu) (by decide) hS rfl
                  · obtain rfl := Option.some.inj hi
                    have hgu : a'.tmps.getD 77 undef = _ := pre_of hpre 13 77 (by kernel_rfl) (by kernel_rfl)
                    exact sq_skip rfl (unwanted_undef 13 77 _ rfl (by kernel_rfl) hgu) (by decide) hS rfl
                  · obtain rfl := Option.some.inj hi
                    have hgu : a'.tmps.getD 71 undef = _ := pre_of hpre 7 71 (by kernel_rfl) (by kernel_rfl)
                    exact sq_skip rfl (unwanted_of 7 71 false rfl (by kernel_rfl) hgu) (by decide) hS rfl
                  · obtain rfl := Option.some.inj hi
                    have hgu : a'.tmps.getD 71 undef = _ := pre_of hpre 7 71 (by kernel_rfl) (by kernel_rfl)
                    exact sq_skip rfl (unwanted_of 7 71 false rfl (by kernel_rfl) hgu) (by decide) hS rfl
                  · obtain rfl := Option.some.inj hi
                    have hgu : a'.tmps.getD 83 undef = _ := pre_of hpre 19 83 (by kernel_rfl) (by kernel_rfl)
                    exact sq_skip rfl (unwanted_undef 19 83 _ rfl (by kernel_rfl) hgu) (by decide) hS rfl
                  · obtain rfl := Option.some.inj hi
                    have hgu : a'.tmps.getD 83 undef = _ := pre_of hpre 19 83 (by kernel_rfl) (by kernel_rfl)
                    exact sq_skip rfl (unwanted_undef 19 83 _ rfl (by kernel_rfl) hgu) (by decide) hS rfl
                  · obtain rfl := Option.some.inj hi
                    have hgu : a'.tmps.getD 83 undef = _ := pre_of hpre 19 83 (by kernel_rfl) (by kernel_rfl)
                    exact sq_skip rfl (unwanted_undef 19 83 _ rfl (by kernel_rfl) hgu) (by decide) hS rfl
                  · obtain rfl := Option.some.inj hi
                    have hgu : a'.tmps.getD 71 undef = _ := pre_of hpre 7 71 (by kernel_rfl) (by kernel_rfl)
                    exact sq_skip rfl (unwanted_of 7 71 false rfl (by kernel_rfl) hgu) (by decide) hS rfl
                  · obtain rfl := Option.some.inj hi
                    have h0 : a'.tmps.getD 71 undef = _ := pre_of hpre 7 71 (by kernel_rfl) (by kernel_rfl)
                    exact sq_value _ rfl rfl (pick_run 71 false _ _ _ _ rfl h0 rfl rfl) (Below.refl _ _) (by decide) hS RB rfl
                · intro a' w9 f inv hS hall hd
                  have hk24 := hd 24 88 (by kernel_rfl)
                  have ho : Only [] wr w9 := inv.grow
                  have hdf : a'.defers = [] := inv.defers
                  have hsz : a'.tmps.size = 91 := inv.size
                  have e := frame5_20 hsz (fun t ht => inv.old t (dstsIn_spec (ts := [64, 65, 66, 67, 68, 69, 70, 71, 72, 73, 74, 75, 76, 77, 78, 79, 80, 81, 82, 83, 84, 85, 86, 87, 88]) (by kernel_rfl) t ht))
                  have hR := hS.done (fun c hc => hall c (show c < 25 by simp at hc <;> omega))
                  clear inv hd hsz hall hS
                  obtain ⟨tmps, defers⟩ := a'
                  obtain rfl : defers = [] := hdf
                  replace e : tmps = _ := e
                  replace hk24 : tmps.getD 88 undef = (.bool false) := hk24
                  generalize tmps.getD 64 undef = x64 at *
                  generalize tmps.getD 65 undef = x65 at *
                  generalize tmps.getD 66 undef = x66 at *
                  generalize tmps.getD 67 undef = x67 at *
                  generalize tmps.getD 68 undef = x68 at *
                  generalize tmps.getD 69 undef = x69 at *
                  generalize tmps.getD 70 undef = x70 at *
                  generalize tmps.getD 71 undef = x71 at *
                  generalize tmps.getD 72 undef = x72 at *
                  generalize tmps.getD 73 undef = x73 at *
                  generalize tmps.getD 74 undef = x74 at *
                  generalize tmps.getD 75 undef = x75 at *
                  generalize tmps.getD 76 undef = x76 at *
                  generalize tmps.getD 77 undef = x77 at *
                  generalize tmps.getD 78 undef = x78 at *
                  generalize tmps.getD 79 undef = x79 at *
                  generalize tmps.getD 80 undef = x80 at *
                  generalize tmps.getD 81 undef = x81 at *
                  generalize tmps.getD 82 undef = x82 at *
                  generalize tmps.getD 83 undef = x83 at *
                  generalize tmps.getD 84 undef = x84 at *
                  generalize tmps.getD 85 undef = x85 at *
                  generalize tmps.getD 86 undef = x86 at *
                  generalize tmps.getD 87 undef = x87 at *
                  generalize tmps.getD 88 undef = x88 at *
                  simp only [Array.getD_eq_getD_getElem?, List.getElem?_toArray, List.getElem?_cons_succ, List.getElem?_cons_zero, Option.getD_some] at e
                  subst e
                  subst hk24
                  have ekk : (k : Int) = kk := HKK.out
                  subst ekk
                  go_wp2_with fail
                  refine ⟨⟨k + 1, by omega, by omega, by simp, HBK.out _ ho⟩, ?_⟩
                  simp only [intOf]
                  omega
              · have hdd := HD.out (k : Int) (by rw [HRQ.out, HRP.out]; exact hq)
                have HNE : Hid ((rq != rp) = true) := by show _ = _; simpa using hq
                have HLS : Hid (decide (rw < 4) = false) := by show _ = _; have h4 := hdd.2.2; rw [HRW.out] at h4; exact decide_eq_false (by omega)
                have HFO : Hid (((k : Int) == fo) = false) := by show _ = _; simpa using hdd.2.1
                have HCP := HCPP
                have ea : a6 = (k : Int) := hdd.1.symm
                have HM : Hid (∀ w', Only [] wr w' → (w'.heap[b9]? = some (.cells CQ 26 (0, 0)) ∧ CQ.size = 3) ∧ (w'.heap[b5]? = some (.cells CP 26 (0, 0)) ∧ CP.size = 3) ∧ w'.cell? ⟨b8, 1, none⟩ = some (.int .i64 a2) ∧ w'.cell? ⟨b8, 5, none⟩ = some (.int .i64 (k : Int))) := by rw [← ea]; exact HM0.out
                clear IK HCQ0 HCP0 HRQ HRP HRW HM0 HCPP hdd ea hq
                obtain ⟨kk, HKK⟩ : ∃ kk : Int, Hid ((k : Int) = kk) := ⟨_, rfl⟩
                rw [HKK.out] at HCQ HCP HFO HM
                rw [HKK.out] at k1 ⊢
                obtain ⟨wrr, HWR⟩ : ∃ wrr : Int, Hid (a2 = wrr) := ⟨_, rfl⟩
                rw [HWR.out] at HM HCW
                go_wp2_with fail
                have RB : ∀ k w w', Below w.heap.size w w' → (fun (_ : Nat) (_ : World) => True) k w → (fun (_ : Nat) (_ : World) => True) k w' := fun _ _ _ _ _ => trivial
                refine wp_region_st (fo20b CQ CP b8 kk fo wrr rq rp rw) (fun u u' => Only [] u u') (SeqS [] (fun (_ : Nat) (_ : World) => True)) (by kernel_rfl) (only_drew _ _) (only_trans _) (fo20b_kept CQ CP b8 kk fo wrr rq rp rw) (by kernel_rfl) (SeqS.start (trivial)) ?_ ?_
                · intro i o a' w' f hi inv hS hfi hfw hpre
                  have ho : Only [] wr w' := inv.grow
                  have hlt : i < 25 := (Array.getElem?_eq_some_iff.1 hi).1
                  obtain rfl|rfl|rfl|rfl|rfl|rfl|rfl|rfl|rfl|rfl|rfl|rfl|rfl|rfl|rfl|rfl|rfl|rfl|rfl|rfl|rfl|rfl|rfl|rfl|rfl : i = 0 ∨ i = 1 ∨ i = 2 ∨ i = 3 ∨ i = 4 ∨ i = 5 ∨ i = 6 ∨ i = 7 ∨ i = 8 ∨ i = 9 ∨ i = 10 ∨ i = 11 ∨ i = 12 ∨ i = 13 ∨ i = 14 ∨ i = 15 ∨ i = 16 ∨ i = 17 ∨ i = 18 ∨ i = 19 ∨ i = 20 ∨ i = 21 ∨ i = 22 ∨ i = 23 ∨ i = 24 := by omega
                  · obtain rfl := Option.some.inj hi
                    have h0 : a'.tmps.getD 9 undef = (.pointer (some ⟨b9, 0, none⟩)) := by rw [inv.old 9 (notDst_spec (by kernel_rfl))]; rfl
                    exact sq_value _ rfl rfl (load_run 26 9 b9 (0) _ rfl h0 (ld26 ((HM.out w' ho).1))) (Below.refl _ _) (by decide) hS RB rfl
                  · obtain rfl := Option.some.inj hi
                    exact sq_value _ rfl rfl rfl (Below.refl _ _) (by decide) hS RB (by show a'.tmps.getD 11 undef = _; rw [inv.old 11 (notDst_spec (by kernel_rfl))]; rfl)
                  · obtain rfl := Option.some.inj hi
                    have h0 : a'.tmps.getD 64 undef = _ := pre_of hpre 0 64 (by kernel_rfl) (by kernel_rfl)
                    have h1 : a'.tmps.getD 65 undef = _ := pre_of hpre 1 65 (by kernel_rfl) (by kernel_rfl)
                    refine sq_quiet 21 #[a'.tmps.getD 64 undef, a'.tmps.getD 65 undef] rfl rfl (by kernel_rfl) (by decide) hS ?_
                    rw [h0, h1]
                    exact (HCQ.out w' ho).mono (by rintro z u ⟨rfl, h2⟩; exact ⟨_, rfl, Only.of_below h2 _, (fun _ h => h), rfl⟩)
                  · obtain rfl := Option.some.inj hi
                    have h0 : a'.tmps.getD 5 undef = (.pointer (some ⟨b5, 0, none⟩)) := by rw [inv.old 5 (notDst_spec (by kernel_rfl))]; rfl
                    exact sq_value _ rfl rfl (load_run 26 5 b5 (0) _ rfl h0 (ld26 ((HM.out w' ho).2.1))) (Below.refl _ _) (by decide) hS RB rfl
                  · obtain rfl := Option.some.inj hi
                    exact sq_value _ rfl rfl rfl (Below.refl _ _) (by decide) hS RB (by show a'.tmps.getD 11 undef = _; rw [inv.old 11 (notDst_spec (by kernel_rfl))]; rfl)
                  · obtain rfl := Option.some.inj hi
                    have h0 : a'.tmps.getD 67 undef = _ := pre_of hpre 3 67 (by kernel_rfl) (by kernel_rfl)
                    have h1 : a'.tmps.getD 68 undef = _ := pre_of hpre 4 68 (by kernel_rfl) (by kernel_rfl)
                    refine sq_quiet 21 #[a'.tmps.getD 67 undef, a'.tmps.getD 68 undef] rfl rfl (by kernel_rfl) (by decide) hS ?_
                    rw [h0, h1]
                    exact (HCP.out w' ho).mono (by rintro z u ⟨rfl, h2⟩; exact ⟨_, rfl, Only.of_below h2 _, (fun _ h => h), rfl⟩)
                  · obtain rfl := Option.some.inj hi
                    have h0 : a'.tmps.getD 66 undef = _ := pre_of hpre 2 66 (by kernel_rfl) (by kernel_rfl)
                    have h1 : a'.tmps.getD 69 undef = _ := pre_of hpre 5 69 (by kernel_rfl) (by kernel_rfl)
                    exact sq_value _ rfl rfl (neqN_run 66 69 _ _ rfl h0 h1) (Below.refl _ _) (by decide) hS RB (by show Value.bool _ = _; rw [HNE.out])
                  · obtain rfl := Option.some.inj hi
                    have h0 := pre_of hpre 6 70 (by kernel_rfl) (by kernel_rfl)
                    exact sq_value _ rfl rfl (rfl) (Below.refl _ _) (by decide) hS RB h0
                  · obtain rfl := Option.some.inj hi
                    have hgu : a'.tmps.getD 71 undef = _ := pre_of hpre 7 71 (by kernel_rfl) (by kernel_rfl)
                    have h0 : a'.tmps.getD 5 undef = (.pointer (some ⟨b5, 0, none⟩)) := by rw [inv.old 5 (notDst_spec (by kernel_rfl))]; rfl
                    exact sq_value _ rfl (wanted_of 7 71 true rfl (by kernel_rfl) hgu) (load_run 26 5 b5 (0) _ rfl h0 (ld26 ((HM.out w' ho).2.1))) (Below.refl _ _) (by decide) hS RB rfl
                  · obtain rfl := Option.some.inj hi
                    have hgu : a'.tmps.getD 71 undef = _ := pre_of hpre 7 71 (by kernel_rfl) (by kernel_rfl)
                    have h0 : a'.tmps.getD 8 undef = (.pointer (some ⟨b8, 0, none⟩)) := by rw [inv.old 8 (notDst_spec (by kernel_rfl))]; rfl
                    exact sq_value _ rfl (wanted_of 7 71 true rfl (by kernel_rfl) hgu) (fa_run 38 1 8 b8 rfl h0 (fa38_1 b8)) (Below.refl _ _) (by decide) hS RB rfl
                  · obtain rfl := Option.some.inj hi
                    have hgu : a'.tmps.getD 71 undef = _ := pre_of hpre 7 71 (by kernel_rfl) (by kernel_rfl)
                    have h0 : a'.tmps.getD 73 undef = _ := pre_of hpre 9 73 (by kernel_rfl) (by kernel_rfl)
                    exact sq_value _ rfl (wanted_of 7 71 true rfl (by kernel_rfl) hgu) (load_run 3 73 b8 (1) _ rfl h0 (ld3 ((HM.out w' ho).2.2.1))) (Below.refl _ _) (by decide) hS RB rfl
                  · obtain rfl := Option.some.inj hi
                    have hgu : a'.tmps.getD 71 undef = _ := pre_of hpre 7 71 (by kernel_rfl) (by kernel_rfl)
                    have h0 : a'.tmps.getD 72 undef = _ := pre_of hpre 8 72 (by kernel_rfl) (by kernel_rfl)
                    have h1 : a'.tmps.getD 74 undef = _ := pre_of hpre 10 74 (by kernel_rfl) (by kernel_rfl)
                    refine sq_quiet 21 #[a'.tmps.getD 72 undef, a'.tmps.getD 74 undef] rfl (wanted_of 7 71 true rfl (by kernel_rfl) hgu) (by kernel_rfl) (by decide) hS ?_
                    rw [h0, h1]
                    exact (HCW.out w' ho).mono (by rintro z u ⟨rfl, h2⟩; exact ⟨_, rfl, Only.of_below h2 _, (fun _ h => h), rfl⟩)
                  · obtain rfl := Option.some.inj hi
                    have hgu : a'.tmps.getD 71 undef = _ := pre_of hpre 7 71 (by kernel_rfl) (by kernel_rfl)
                    have h0 : a'.tmps.getD 75 undef = _ := pre_of hpre 11 75 (by kernel_rfl) (by kernel_rfl)
                    exact sq_value _ rfl (wanted_of 7 71 true rfl (by kernel_rfl) hgu) (lssK_run 75 _ _ rfl h0) (Below.refl _ _) (by decide) hS RB (by show Value.bool _ = _; rw [HLS.out])
                  · obtain rfl := Option.some.inj hi
                    have hgu : a'.tmps.getD 71 undef = _ := pre_of hpre 7 71 (by kernel_rfl) (by kernel_rfl)
                    have h0 := pre_of hpre 12 76 (by kernel_rfl) (by kernel_rfl)
                    exact sq_value _ rfl (wanted_of 7 71 true rfl (by kernel_rfl) hgu) (rfl) (Below.refl _ _) (by decide) hS RB h0
                  · obtain rfl := Option.some.inj hi
                    have hgu : a'.tmps.getD 77 undef = _ := pre_of hpre 13 77 (by kernel_rfl) (by kernel_rfl)
                    exact sq_value _ rfl (wanted_of 13 77 false rfl (by kernel_rfl) hgu) rfl (Below.refl _ _) (by decide) hS RB (by show a'.tmps.getD 11 undef = _; rw [inv.old 11 (notDst_spec (by kernel_rfl))]; rfl)
                  · obtain rfl := Option.some.inj hi
                    have hgu : a'.tmps.getD 77 undef = _ := pre_of hpre 13 77 (by kernel_rfl) (by kernel_rfl)
                    have h0 : a'.tmps.getD 8 undef = (.pointer (some ⟨b8, 0, none⟩)) := by rw [inv.old 8 (notDst_spec (by kernel_rfl))]; rfl
                    exact sq_value _ rfl (wanted_of 13 77 false rfl (by kernel_rfl) hgu) (fa_run 38 5 8 b8 rfl h0 (fa38_5 b8)) (Below.refl _ _) (by decide) hS RB rfl
                  · obtain rfl := Option.some.inj hi
                    have hgu : a'.tmps.getD 77 undef = _ := pre_of hpre 13 77 (by kernel_rfl) (by kernel_rfl)
                    have h0 : a'.tmps.getD 79 undef = _ := pre_of hpre 15 79 (by kernel_rfl) (by kernel_rfl)
                    exact sq_value _ rfl (wanted_of 13 77 false rfl (by kernel_rfl) hgu) (load_run 3 79 b8 (5) _ rfl h0 (ld3 ((HM.out w' ho).2.2.2))) (Below.refl _ _) (by decide) hS RB rfl
                  · obtain rfl := Option.some.inj hi
                    have hgu : a'.tmps.getD 77 undef = _ := pre_of hpre 13 77 (by kernel_rfl) (by kernel_rfl)
                    have h0 : a'.tmps.getD 78 undef = _ := pre_of hpre 14 78 (by kernel_rfl) (by kernel_rfl)
                    have h1 : a'.tmps.getD 80 undef = _ := pre_of hpre 16 80 (by kernel_rfl) (by kernel_rfl)
                    exact sq_value _ rfl (wanted_of 13 77 false rfl (by kernel_rfl) hgu) (neqN_run 78 80 _ _ rfl h0 h1) (Below.refl _ _) (by decide) hS RB (by show Value.bool _ = _; simp)
                  · obtain rfl := Option.some.inj hi
                    have hgu : a'.tmps.getD 71 undef = _ := pre_of hpre 7 71 (by kernel_rfl) (by kernel_rfl)
                    have h0 : a'.tmps.getD 77 undef = _ := pre_of hpre 13 77 (by kernel_rfl) (by kernel_rfl)
                    have h1 : a'.tmps.getD 81 undef = _ := pre_of hpre 17 81 (by kernel_rfl) (by kernel_rfl)
                    exact sq_value _ rfl (wanted_of 7 71 true rfl (by kernel_rfl) hgu) (pick_run 77 false _ _ _ _ rfl h0 rfl h1) (Below.refl _ _) (by decide) hS RB rfl
                  · obtain rfl := Option.some.inj hi
                    have hgu : a'.tmps.getD 71 undef = _ := pre_of hpre 7 71 (by kernel_rfl) (by kernel_rfl)
                    have h0 := pre_of hpre 18 82 (by kernel_rfl) (by kernel_rfl)
                    exact sq_value _ rfl (wanted_of 7 71 true rfl (by kernel_rfl) hgu) (rfl) (Below.refl _ _) (by decide) hS RB h0
                  · obtain rfl := Option.some.inj hi
                    have hgu : a'.tmps.getD 83 undef = _ := pre_of hpre 19 83 (by kernel_rfl) (by kernel_rfl)
                    exact sq_value _ rfl (wanted_of 19 83 false rfl (by kernel_rfl) hgu) rfl (Below.refl _ _) (by decide) hS RB (by show a'.tmps.getD 11 undef = _; rw [inv.old 11 (notDst_spec (by kernel_rfl))]; rfl)
                  · obtain rfl := Option.some.inj hi
                    have hgu : a'.tmps.getD 83 undef = _ := pre_of hpre 19 83 (by kernel_rfl) (by kernel_rfl)
                    exact sq_value _ rfl (wanted_of 19 83 false rfl (by kernel_rfl) hgu) rfl (Below.refl _ _) (by decide) hS RB (by show a'.tmps.getD 0 undef = _; rw [inv.old 0 (notDst_spec (by kernel_rfl))]; rfl)
                  · obtain rfl := Option.some.inj hi
                    have hgu : a'.tmps.getD 83 undef = _ := pre_of hpre 19 83 (by kernel_rfl) (by kernel_rfl)
                    have h0 : a'.tmps.getD 84 undef = _ := pre_of hpre 20 84 (by kernel_rfl) (by kernel_rfl)
                    have h1 : a'.tmps.getD 85 undef = _ := pre_of hpre 21 85 (by kernel_rfl) (by kernel_rfl)
                    exact sq_value _ rfl (wanted_of 19 83 false rfl (by kernel_rfl) hgu) (eqlN_run 84 85 _ _ rfl h0 h1) (Below.refl _ _) (by decide) hS RB (by show Value.bool _ = _; rw [HFO.out])
                  · obtain rfl := Option.some.inj hi
                    have hgu : a'.tmps.getD 71 undef = _ := pre_of hpre 7 71 (by kernel_rfl) (by kernel_rfl)
                    have h0 : a'.tmps.getD 83 undef = _ := pre_of hpre 19 83 (by kernel_rfl) (by kernel_rfl)
                    have h1 : a'.tmps.getD 86 undef = _ := pre_of hpre 22 86 (by kernel_rfl) (by kernel_rfl)
                    exact sq_value _ rfl (wanted_of 7 71 true rfl (by kernel_rfl) hgu) (pick_run 83 false _ _ _ _ rfl h0 rfl h1) (Below.refl _ _) (by decide) hS RB rfl
                  · obtain rfl := Option.some.inj hi
                    have h0 : a'.tmps.getD 71 undef = _ := pre_of hpre 7 71 (by kernel_rfl) (by kernel_rfl)
                    have h1 : a'.tmps.getD 87 undef = _ := pre_of hpre 23 87 (by kernel_rfl) (by kernel_rfl)
                    exact sq_value _ rfl rfl (pick_run 71 true _ _ _ _ rfl h0 h1 rfl) (Below.refl _ _) (by decide) hS RB rfl
                · intro a' w9 f inv hS hall hd
                  have hk24 := hd 24 88 (by kernel_rfl)
                  have ho : Only [] wr w9 := inv.grow
                  have hdf : a'.defers = [] := inv.defers
                  have hsz : a'.tmps.size = 91 := inv.size
                  have e := frame5_20 hsz (fun t ht => inv.old t (dstsIn_spec (ts := [64, 65, 66, 67, 68, 69, 70, 71, 72, 73, 74, 75, 76, 77, 78, 79, 80, 81, 82, 83, 84, 85, 86, 87, 88]) (by kernel_rfl) t ht))
                  have hR := hS.done (fun c hc => hall c (show c < 25 by simp at hc <;> omega))
                  clear inv hd hsz hall hS
                  obtain ⟨tmps, defers⟩ := a'
                  obtain rfl : defers = [] := hdf
                  replace e : tmps = _ := e
                  replace hk24 : tmps.getD 88 undef = (.bool false) := hk24
                  generalize tmps.getD 64 undef = x64 at *
                  generalize tmps.getD 65 undef = x65 at *
                  generalize tmps.getD 66 undef = x66 at *
                  generalize tmps.getD 67 undef = x67 at *
                  generalize tmps.getD 68 undef = x68 at *
                  generalize tmps.getD 69 undef = x69 at *
                  generalize tmps.getD 70 undef = x70 at *
                  generalize tmps.getD 71 undef = x71 at *
                  generalize tmps.getD 72 undef = x72 at *
                  generalize tmps.getD 73 undef = x73 at *
                  generalize tmps.getD 74 undef = x74 at *
                  generalize tmps.getD 75 undef = x75 at *
                  generalize tmps.getD 76 undef = x76 at *
                  generalize tmps.getD 77 undef = x77 at *
                  generalize tmps.getD 78 undef = x78 at *
                  generalize tmps.getD 79 undef = x79 at *
                  generalize tmps.getD 80 undef = x80 at *
                  generalize tmps.getD 81 undef = x81 at *
                  generalize tmps.getD 82 undef = x82 at *
                  generalize tmps.getD 83 undef = x83 at *
                  generalize tmps.getD 84 undef = x84 at *
                  generalize tmps.getD 85 undef = x85 at *
                  generalize tmps.getD 86 undef = x86 at *
                  generalize tmps.getD 87 undef = x87 at *
                  generalize tmps.getD 88 undef = x88 at *
                  simp only [Array.getD_eq_getD_getElem?, List.getElem?_toArray, List.getElem?_cons_succ, List.getElem?_cons_zero, Option.getD_some] at e
                  subst e
                  subst hk24
                  have ekk : (k : Int) = kk := HKK.out
                  subst ekk
                  go_wp2_with fail
                  refine ⟨⟨k + 1, by omega, by omega, by simp, HBK.out _ ho⟩, ?_⟩
                  simp only [intOf]
                  omega
            · have k1 : ¬ (k : Int) ≤ 16 := by omega
              obtain ⟨u0, u1, u2⟩ := IK.out.qcells
              obtain ⟨g0, g1, g2, s0, s1, s2⟩ := IK.out.pf.cells
              have G9 : Hid (PF w (((wr.setCell ⟨b5, 0, none⟩ (.int .i64 fo)).setCell ⟨b5, 1, none⟩ (.int .i64 e1)).setCell ⟨b5, 2, none⟩ (.slice q1 n1 c1')) b5 fo e1 q1 n1 c1' R1) := IK.out.next
              clear IK
              go_wp2_with fail
              refine ⟨⟨j + 1, e1, q1, n1, c1', R1, by omega, by simp, G9⟩, ?_⟩
              simp only [intOf]
              omega
    · obtain rfl : j = n := by omega
      have j1 : ¬ (j : Int) < (j : Int) := by omega
      have HBW : Hid (Below w.heap.size w wr) := GJ.out.bel
      go_wp2_with fail
      go_ret
      exact ⟨rfl, HBW.out⟩
theorem founder_any (fo : Int) (a1 : Option Addr) (n c1 : Nat) (w : World) (h1 : n ≤ 9223372036854775807 ∧ ∃ es : List En, es.length = n ∧ EnRow w a1 es) : Calls Try.prog 5 #[.int .i64 fo, .slice a1 n c1] w fun x w' => x = .returned (.bool true) ∧ Below w.heap.size w w' := by
  by_cases h : 40 < n
  · exact fo_many w fo a1 n c1 h1.1 h
  · by_cases hf : fo < 1 ∨ 16 < fo
    · exact fo_bad w fo a1 n c1 (by omega) hf
    · obtain ⟨-, es, rfl, hr⟩ := h1
      exact fo_main w fo a1 es c1 hr (by omega) (by omega)
end Go.Proofs.Ytmlnbbggfjgacaa.P10
