/- The walk of PolicyOwn. -/
import Derived.Test.YtmlnbbggfjgacaaP10Ow0
namespace Go.Proofs.Ytmlnbbggfjgacaa.P10
open Go.RowKit C8 E9
/-- While the copy's members are turned: nothing below it is, and they stay members. -/
structure JF (W0 W : World) (b : Nat) (f e : Int) (q : Option Addr) (n c : Nat) : Prop where
  bel : Below W0.heap.size W0 W
  box : W.heap[b]? = some (.cells #[.int .i64 f, .int .i64 e, .slice q n c] 26 (0, 0))
  rows : RowsOf W0.heap.size b W q n
section
variable {W0 W : World} {b : Nat} {f e : Int} {q : Option Addr} {n c : Nat}
theorem JF.start (hb : Below W0.heap.size W0 W) (hr : RowsOf W0.heap.size W.heap.size W q n) : JF W0 (W.alloc (.cells #[.int .i64 f, .int .i64 e, .slice q n c] 26)) W.heap.size f e q n c :=
  ⟨hb.trans (bel_alloc hb.size _), heap_alloc_new W _, hr.below (Nat.le_refl _) (bel_alloc (Nat.le_refl _) _)⟩
theorem JF.cells (h : JF W0 W b f e q n c) : W.cell? ⟨b, 2, none⟩ = some (.slice q n c) := by rw [cell_of_row _ _ _ _ _ _ h.box]; rfl
theorem JF.set (h : JF W0 W b f e q n c) (g o : Nat) (x : Int) (h1 : W0.heap.size ≤ g) (h2 : g < b) : JF W0 (W.setCell ⟨g, o, none⟩ (.int .i64 x)) b f e q n c :=
  ⟨h.bel.setCell (p := ⟨g, o, none⟩) h1 _, ((Only.setCell (bs := [g]) W ⟨g, o, none⟩ (.int .i64 x) (by simp)).block b (Array.getElem?_eq_some_iff.1 h.box).1 (by simp; omega)).trans h.box, h.rows.set _ _⟩
end
set_option maxHeartbeats 3000000 in
theorem ow_many (w : World) (fo : Int) (a1 : Option Addr) (n c1 : Nat) (hn : n ≤ 9223372036854775807) (h : 30 < n) : Calls Try.prog 6 #[.int .i64 fo, .slice a1 n c1] w fun x w' => x = .returned (.bool true) ∧ Below w.heap.size w w' := by
  have HC9 : ∀ W, W = w → Calls Try.prog 9 #[] W fun x w' => x = .returned (.bool true) ∧ Hid (Below w.heap.size w w') := by rintro W rfl; exact anchor_any W
  have k1 : (30 : Int) < (n : Int) := by omega
  go_enter Try.func6, Try.ntmps6
  go_wp2_with (first | (go_at_call 9; refine (HC9 _ rfl).mono ?_; rintro x w1 ⟨rfl, B1⟩))
  go_ret
  exact ⟨rfl, B1.out⟩
set_option maxHeartbeats 3000000 in
theorem ow_bad (w : World) (fo : Int) (a1 : Option Addr) (n c1 : Nat) (h : n ≤ 30) (hf : fo < 1 ∨ 16 < fo) : Calls Try.prog 6 #[.int .i64 fo, .slice a1 n c1] w fun x w' => x = .returned (.bool true) ∧ Below w.heap.size w w' := by
  have HC9 : ∀ W, W = w → Calls Try.prog 9 #[] W fun x w' => x = .returned (.bool true) ∧ Hid (Below w.heap.size w w') := by rintro W rfl; exact anchor_any W
  have HC10 : ∀ W, Hid (Below w.heap.size w W) → Calls Try.prog 10 #[.int .i64 fo] W fun x w' => x = .returned (.tuple #[.agg #[.int .i64 0, .int .i64 0, .slice none 0 0], .int .i64 10]) ∧ Hid (∀ o, Below w.heap.size w (w'.alloc o)) := fun W hW => (First_bad fo W hf).mono (by
    rintro x w' ⟨rfl, hb⟩
    have hb2 := hW.out.trans (bel_le hb hW.out.size)
    exact ⟨rfl, fun o => hb2.trans (bel_alloc hb2.size o)⟩)
  have k1 : ¬ (30 : Int) < (n : Int) := by omega
  clear hf
  go_enter Try.func6, Try.ntmps6
  go_wp2_with (first | (go_at_call 9; refine (HC9 _ rfl).mono ?_; rintro x w1 ⟨rfl, B1⟩) | (go_at_call 10; refine (HC10 _ B1).mono ?_; rintro x w2 ⟨rfl, B2⟩))
  go_ret
  exact ⟨rfl, B2.out _⟩
set_option maxHeartbeats 16000000 in
set_option maxRecDepth 20000 in
theorem ow_main (w : World) (fo : Int) (a1 : Option Addr) (es : List En) (ca : Nat) (h1 : EnRow w a1 es) (hn : es.length ≤ 30) (hf : 1 ≤ fo ∧ fo ≤ 16) : Calls Try.prog 6 #[.int .i64 fo, .slice a1 es.length ca] w fun x w' => x = .returned (.bool true) ∧ Below w.heap.size w w' := by
  have HC9 : ∀ W, W = w → Calls Try.prog 9 #[] W fun x w' => x = .returned (.bool true) ∧ Hid (Below w.heap.size w w') := by rintro W rfl; exact anchor_any W
  have HC10 : ∀ W, Hid (Below w.heap.size w W) → Calls Try.prog 10 #[.int .i64 fo] W fun x w' => ∃ q c, x = .returned (.tuple #[.agg #[.int .i64 fo, .int .i64 0, .slice q 1 c], .int .i64 0]) ∧ Hid (PF w (w'.alloc (.cells #[.int .i64 fo, .int .i64 0, .slice q 1 c] 26)) w'.heap.size fo 0 q 1 c (fun x => if fo = x then 7 else 0)) := fun W hW => (first_fo fo W hf).mono (by
    rintro x w' ⟨q, c, rfl, k1, k2⟩
    exact ⟨q, c, rfl, PF.start (hW.out.trans (bel_le k2 hW.out.size)) (k1.old (Nat.zero_le _))⟩)
  have HA : Hid (∀ W, Below w.heap.size w W → EnRow W a1 es) := fun W hW => h1.below hW
  have f1' : (1 : Int) ≤ fo := hf.1
  have f2' : fo ≤ 16 := hf.2
  clear h1 hf
  obtain ⟨n, HN⟩ : ∃ n, Hid (es.length = n) := ⟨_, rfl⟩
  rw [HN.out] at hn ⊢
  have n30 : (n : Int) ≤ 30 := by omega
  go_enter Try.func6, Try.ntmps6
  go_wp2_with (first | (go_at_call 9; refine (HC9 _ rfl).mono ?_; rintro x w1 ⟨rfl, B1⟩))
  refine (HC10 _ B1).mono ?_
  rintro x w2 ⟨q0, c0, rfl, G0⟩
  clear HC9 HC10 B1
  go_wp2_with fail
  generalize w2.alloc (.cells #[.int .i64 fo, .int .i64 0, .slice q0 1 c0] 26) = W0 at *
  generalize w2.heap.size = b5 at *
  go_loopw [29] (fun i wr => ∃ (j : Nat) (e : Int) (q : Option Addr) (nn c : Nat) (R : Int → Int), j ≤ n ∧ i = .int .i64 j ∧ Hid (PF w wr b5 fo e q nn c R)) (fun i _ => n - (intOf i).toNat)
  case atStart => exact ⟨0, 0, q0, 1, c0, _, by omega, rfl, G0⟩
  case round =>
    obtain ⟨j, e, q, nn, c, R, hj, rfl, GJ⟩ := hrel
    clear G0
    have j0 : (0 : Int) ≤ (j : Int) := by omega
    by_cases hlt : j < n
    · have j1 : (j : Int) < (n : Int) := by omega
      obtain ⟨bb, ob, np, nc, vp, vc, wq, wc, rfl, k2, k3, k4⟩ := (HA.out wr GJ.out.bel) j (by rw [HN.out]; exact hlt)
      generalize es[j]'(by rw [HN.out]; exact hlt) = en at *
      have HEN : Hid (∀ W, Below wr.heap.size wr W → EnIs W (.agg (EnV en np nc vp vc wq wc)) en) := fun W hb => k4.below hb
      clear k4
      have HSM : Hid (∀ W, Below wr.heap.size wr W → Calls Try.prog 13 #[.agg (EnV en np nc vp vc wq wc)] W fun z u => z = .returned (.bool (small en)) ∧ Below W.heap.size W u) := fun W hb => small_any en _ W (HEN.out W hb)
      have HAP : Hid (∀ W, Below wr.heap.size wr W → Calls Try.prog 14 #[.agg #[.int .i64 fo, .int .i64 e, .slice q nn c], .agg (EnV en np nc vp vc wq wc)] W fun z u => ApTold en fo e R W z u) := fun W hb => apply_told en _ fo e q nn c 0 R W (GJ.out.step hb).told (HEN.out W hb)
      obtain ⟨E0, HE0⟩ : ∃ E0, Hid (en = E0) := ⟨_, rfl⟩
      have HAP2 : Hid (∀ W, Below wr.heap.size wr W → Calls Try.prog 14 #[.agg #[.int .i64 fo, .int .i64 e, .slice q nn c], .agg (EnV en np nc vp vc wq wc)] W fun z u => ApTold E0 fo e R W z u) := HE0.out ▸ HAP.out
      have HWW : Hid (en.writer = E0.writer ∧ en.who = E0.who) := HE0.out ▸ ⟨rfl, rfl⟩
      obtain ⟨sm, HS⟩ : ∃ sm, Hid (small en = sm) := ⟨_, rfl⟩
      rw [HS.out] at HSM
      clear HAP HEN HE0 HS
      obtain ⟨a1, a2, a3, a4, a5, a6, a7, a8, a9⟩ := en
      simp only [EnV] at k3 HSM HAP2 HWW
      generalize a4.length = l4 at *
      generalize a5.length = l5 at *
      generalize a9.length = l9 at *
      have d0 : wr.cell? ⟨bb, ob + j * 9, none⟩ = some (.int .i64 a1) := k3 0 _ rfl
      have d1 : wr.cell? ⟨bb, ob + j * 9 + 1, none⟩ = some (.int .i64 a2) := k3 1 _ rfl
      have d2 : wr.cell? ⟨bb, ob + j * 9 + 2, none⟩ = some (.int .i64 a3) := k3 2 _ rfl
      have d3 : wr.cell? ⟨bb, ob + j * 9 + 3, none⟩ = some (.slice np l4 nc) := k3 3 _ rfl
      have d4 : wr.cell? ⟨bb, ob + j * 9 + 4, none⟩ = some (.slice vp l5 vc) := k3 4 _ rfl
      have d5 : wr.cell? ⟨bb, ob + j * 9 + 5, none⟩ = some (.int .i64 a6) := k3 5 _ rfl
      have d6 : wr.cell? ⟨bb, ob + j * 9 + 6, none⟩ = some (.int .i64 a7) := k3 6 _ rfl
      have d7 : wr.cell? ⟨bb, ob + j * 9 + 7, none⟩ = some (.int .i64 a8) := k3 7 _ rfl
      have d8 : wr.cell? ⟨bb, ob + j * 9 + 8, none⟩ = some (.slice wq l9 wc) := k3 8 _ rfl
      clear k3
      have HB8 : Hid (Below wr.heap.size wr (wr.alloc (.cells #[.int .i64 a1, .int .i64 a2, .int .i64 a3, .slice np l4 nc, .slice vp l5 vc, .int .i64 a6, .int .i64 a7, .int .i64 a8, .slice wq l9 wc] 38))) := bel_alloc (Nat.le_refl _) _
      have R8 : Hid ((wr.alloc (.cells #[.int .i64 a1, .int .i64 a2, .int .i64 a3, .slice np l4 nc, .slice vp l5 vc, .int .i64 a6, .int .i64 a7, .int .i64 a8, .slice wq l9 wc] 38)).heap[wr.heap.size]? = some (.cells #[.int .i64 a1, .int .i64 a2, .int .i64 a3, .slice np l4 nc, .slice vp l5 vc, .int .i64 a6, .int .i64 a7, .int .i64 a8, .slice wq l9 wc] 38 (0, 0))) := heap_alloc_new wr _
      have H13 : Calls Try.prog 13 #[.agg #[.int .i64 a1, .int .i64 a2, .int .i64 a3, .slice np l4 nc, .slice vp l5 vc, .int .i64 a6, .int .i64 a7, .int .i64 a8, .slice wq l9 wc]] (wr.alloc (.cells #[.int .i64 a1, .int .i64 a2, .int .i64 a3, .slice np l4 nc, .slice vp l5 vc, .int .i64 a6, .int .i64 a7, .int .i64 a8, .slice wq l9 wc] 38)) fun z u => z = .returned (.bool sm) ∧ Hid (Below (wr.alloc (.cells #[.int .i64 a1, .int .i64 a2, .int .i64 a3, .slice np l4 nc, .slice vp l5 vc, .int .i64 a6, .int .i64 a7, .int .i64 a8, .slice wq l9 wc] 38)).heap.size (wr.alloc (.cells #[.int .i64 a1, .int .i64 a2, .int .i64 a3, .slice np l4 nc, .slice vp l5 vc, .int .i64 a6, .int .i64 a7, .int .i64 a8, .slice wq l9 wc] 38)) u) := HSM.out _ HB8.out
      go_wp2_with fail
      refine H13.mono ?_
      rintro z w3 ⟨rfl, B3⟩
      have HB3 : Hid (Below wr.heap.size wr w3) := HB8.out.trans (bel_le B3.out HB8.out.size)
      have R3 : Hid (w3.heap[wr.heap.size]? = some (.cells #[.int .i64 a1, .int .i64 a2, .int .i64 a3, .slice np l4 nc, .slice vp l5 vc, .int .i64 a6, .int .i64 a7, .int .i64 a8, .slice wq l9 wc] 38 (0, 0))) := (B3.out.block _ (Array.getElem?_eq_some_iff.1 R8.out).1).trans R8.out
      clear H13 HSM R8 d0 d1 d2 d3 d4 d5 d6 d7 d8
      cases sm with
      | false =>
        have HBW : Hid (Below w.heap.size w w3) := (GJ.out.step HB3.out).bel
        go_wp2_with fail
        go_ret
        exact ⟨rfl, HBW.out⟩
      | true =>
        have G3 : Hid (PF w w3 b5 fo e q nn c R) := GJ.out.step HB3.out
        have H14 : Calls Try.prog 14 #[.agg #[.int .i64 fo, .int .i64 e, .slice q nn c], .agg #[.int .i64 a1, .int .i64 a2, .int .i64 a3, .slice np l4 nc, .slice vp l5 vc, .int .i64 a6, .int .i64 a7, .int .i64 a8, .slice wq l9 wc]] w3 fun z u => ApTold E0 fo e R w3 z u := HAP2.out w3 HB3.out
        have HL8 : Hid (b5 < w3.heap.size) := G3.out.lt
        obtain ⟨g0, g1, g2, -, -, -⟩ := G3.out.cells
        have d0 : w3.cell? ⟨wr.heap.size, 0, none⟩ = some (.int .i64 a1) := by rw [cell_of_row _ _ _ _ _ _ R3.out]; rfl
        have d1 : w3.cell? ⟨wr.heap.size, 1, none⟩ = some (.int .i64 a2) := by rw [cell_of_row _ _ _ _ _ _ R3.out]; rfl
        have d2 : w3.cell? ⟨wr.heap.size, 2, none⟩ = some (.int .i64 a3) := by rw [cell_of_row _ _ _ _ _ _ R3.out]; rfl
        have d3 : w3.cell? ⟨wr.heap.size, 3, none⟩ = some (.slice np l4 nc) := by rw [cell_of_row _ _ _ _ _ _ R3.out]; rfl
        have d4 : w3.cell? ⟨wr.heap.size, 4, none⟩ = some (.slice vp l5 vc) := by rw [cell_of_row _ _ _ _ _ _ R3.out]; rfl
        have d5 : w3.cell? ⟨wr.heap.size, 5, none⟩ = some (.int .i64 a6) := by rw [cell_of_row _ _ _ _ _ _ R3.out]; rfl
        have d6 : w3.cell? ⟨wr.heap.size, 6, none⟩ = some (.int .i64 a7) := by rw [cell_of_row _ _ _ _ _ _ R3.out]; rfl
        have d7 : w3.cell? ⟨wr.heap.size, 7, none⟩ = some (.int .i64 a8) := by rw [cell_of_row _ _ _ _ _ _ R3.out]; rfl
        have d8 : w3.cell? ⟨wr.heap.size, 8, none⟩ = some (.slice wq l9 wc) := by rw [cell_of_row _ _ _ _ _ _ R3.out]; rfl
        have HB3' := HB3
        have HS3 : Hid (wr.heap.size ≤ w3.heap.size) := HB3.out.size
        clear GJ HB3 HB8 B3
        generalize wr.heap.size = b8 at *
        go_wp2_with fail
        refine H14.mono ?_
        rintro z w5 ⟨B5, hz⟩
        have B5H : Hid (Below w3.heap.size w3 w5) := B5
        clear H14 B5 g0 g1 g2 d0 d1 d2 d3 d4 d5 d6 d7 d8
        rcases hz with ⟨r, hr, rfl⟩ | ⟨e1, q1, n1, c1', rfl, hT, he1, h7, hdif⟩
        · have hr0 : (r != 0) = true := by simp [hr]
          have G6 : Hid (∀ o, PF w (w5.alloc o) b5 fo e q nn c R) := fun o => (G3.out.step B5H.out).step (bel_alloc (Nat.le_refl _) o)
          clear G3 R3 B5H hr
          go_wp2_with fail
          refine ⟨⟨j + 1, e, q, nn, c, R, by omega, by simp, G6.out _⟩, ?_⟩
          simp only [intOf]
          omega
        · obtain ⟨R1, HR1⟩ : ∃ R1 : Int → Int, Hid (raf E0 R = R1) := ⟨_, rfl⟩
          rw [HR1.out] at hT h7 hdif
          have HAL : Below w5.heap.size w5 (w5.alloc (.cells #[.int .i64 fo, .int .i64 e1, .slice q1 n1 c1'] 26)) := bel_alloc (Nat.le_refl _) _
          have I6 : Hid (IF w (w5.alloc (.cells #[.int .i64 fo, .int .i64 e1, .slice q1 n1 c1'] 26)) b5 b8 w5.heap.size w3.heap.size fo e e1 q q1 nn c n1 c1' R R1 #[.int .i64 a1, .int .i64 a2, .int .i64 a3, .slice np l4 nc, .slice vp l5 vc, .int .i64 a6, .int .i64 a7, .int .i64 a8, .slice wq l9 wc]) := by
            have R5 := (B5H.out.block _ (Array.getElem?_eq_some_iff.1 R3.out).1).trans R3.out
            exact ⟨(G3.out.step B5H.out).step HAL, heap_alloc_new w5 _, hT.below HAL, (HAL.block _ (Array.getElem?_eq_some_iff.1 R5).1).trans R5, HL8.out⟩
          clear HAL hT h7 hdif HR1 HWW HL8 he1
          have HAP3 : Hid (∀ W', Below w5.heap.size w5 W' → Calls Try.prog 14 #[.agg #[.int .i64 fo, .int .i64 e, .slice q nn c], .agg #[.int .i64 a1, .int .i64 a2, .int .i64 a3, .slice np l4 nc, .slice vp l5 vc, .int .i64 a6, .int .i64 a7, .int .i64 a8, .slice wq l9 wc]] W' fun z u => ApRows W' z u) := fun W' hb => (HAP2.out W' (HB3'.out.trans (bel_le (B5H.out.trans (bel_le hb B5H.out.size)) HS3.out))).mono (fun _ _ h => h.rows)
          have HB6 : Hid (Below w5.heap.size w5 (w5.alloc (.cells #[.int .i64 fo, .int .i64 e1, .slice q1 n1 c1'] 26))) := bel_alloc (Nat.le_refl _) _
          have HS6 : Hid (w5.heap.size ≤ (w5.alloc (.cells #[.int .i64 fo, .int .i64 e1, .slice q1 n1 c1'] 26)).heap.size) := HB6.out.size
          clear HAP2 HB3' B5H G3 R3 HS3
          go_wp2_with fail
          generalize w5.alloc (.cells #[.int .i64 fo, .int .i64 e1, .slice q1 n1 c1'] 26) = W6 at *
          generalize w5.heap.size = b9 at *
          generalize w3.heap.size = B9 at *
          obtain ⟨CQ, HCQ0⟩ : ∃ CQ : Array Value, Hid (#[.int .i64 fo, .int .i64 e1, .slice q1 n1 c1'] = CQ) := ⟨_, rfl⟩
          obtain ⟨CP, HCP0⟩ : ∃ CP : Array Value, Hid (#[.int .i64 fo, .int .i64 e, .slice q nn c] = CP) := ⟨_, rfl⟩
          obtain ⟨rf, HRF⟩ : ∃ rf, Hid (R fo = rf) := ⟨_, rfl⟩
          obtain ⟨ra, HRA⟩ : ∃ ra, Hid (R a6 = ra) := ⟨_, rfl⟩
          obtain ⟨sm, HSUM⟩ : ∃ sm, Hid (IntKind.i64.wrap (rf + ra) = sm) := ⟨_, rfl⟩
          have HCF0 : Hid (∀ w', IF w w' b5 b8 b9 B9 fo e e1 q q1 nn c n1 c1' R R1 #[.int .i64 a1, .int .i64 a2, .int .i64 a3, .slice np l4 nc, .slice vp l5 vc, .int .i64 a6, .int .i64 a7, .int .i64 a8, .slice wq l9 wc] → Calls Try.prog 21 #[.agg CP, .int .i64 fo] w' fun z u => z = .returned (.int .i64 rf) ∧ Below w'.heap.size w' u) := by
            rw [← HCP0.out, ← HRF.out]
            exact fun w' h => h.pf.told.rights fo
          have HCA0 : Hid (∀ w', IF w w' b5 b8 b9 B9 fo e e1 q q1 nn c n1 c1' R R1 #[.int .i64 a1, .int .i64 a2, .int .i64 a3, .slice np l4 nc, .slice vp l5 vc, .int .i64 a6, .int .i64 a7, .int .i64 a8, .slice wq l9 wc] → Calls Try.prog 21 #[.agg CP, .int .i64 a6] w' fun z u => z = .returned (.int .i64 ra) ∧ Below w'.heap.size w' u) := by
            rw [← HCP0.out, ← HRA.out]
            exact fun w' h => h.pf.told.rights a6
          have HRP0 : Hid (∀ w', IF w w' b5 b8 b9 B9 fo e e1 q q1 nn c n1 c1' R R1 #[.int .i64 a1, .int .i64 a2, .int .i64 a3, .slice np l4 nc, .slice vp l5 vc, .int .i64 a6, .int .i64 a7, .int .i64 a8, .slice wq l9 wc] → Calls Try.prog 20 #[.agg CP] w' fun z u => z = .returned (.bool true) ∧ Below w'.heap.size w' u) := by
            rw [← HCP0.out]
            exact fun w' h => h.pf.told.isRight
          have HRQ0 : Hid (∀ w', IF w w' b5 b8 b9 B9 fo e e1 q q1 nn c n1 c1' R R1 #[.int .i64 a1, .int .i64 a2, .int .i64 a3, .slice np l4 nc, .slice vp l5 vc, .int .i64 a6, .int .i64 a7, .int .i64 a8, .slice wq l9 wc] → Calls Try.prog 20 #[.agg CQ] w' fun z u => z = .returned (.bool true) ∧ Below w'.heap.size w' u) := by
            rw [← HCQ0.out]
            exact fun w' h => h.tq.isRight
          have HM0 : Hid (∀ w', IF w w' b5 b8 b9 B9 fo e e1 q q1 nn c n1 c1' R R1 #[.int .i64 a1, .int .i64 a2, .int .i64 a3, .slice np l4 nc, .slice vp l5 vc, .int .i64 a6, .int .i64 a7, .int .i64 a8, .slice wq l9 wc] → (w'.heap[b9]? = some (.cells CQ 26 (0, 0)) ∧ CQ.size = 3) ∧ (w'.heap[b5]? = some (.cells CP 26 (0, 0)) ∧ CP.size = 3) ∧ w'.cell? ⟨b8, 5, none⟩ = some (.int .i64 a6)) := by
            rw [← HCQ0.out, ← HCP0.out]
            exact fun w' h => ⟨⟨h.bq, rfl⟩, ⟨h.pf.box, rfl⟩, by rw [cell_of_row _ _ _ _ _ _ h.be]; rfl⟩
          clear HCQ0 HCP0 HRF HRA
          have HM : Hid (∀ w', Only [] W6 w' → (w'.heap[b9]? = some (.cells CQ 26 (0, 0)) ∧ CQ.size = 3) ∧ (w'.heap[b5]? = some (.cells CP 26 (0, 0)) ∧ CP.size = 3) ∧ w'.cell? ⟨b8, 5, none⟩ = some (.int .i64 a6)) := fun w' ho => HM0.out w' (I6.out.step (ho.below (Nat.le_refl _) (by simp)))
          have HCF : Hid (∀ w', Only [] W6 w' → Calls Try.prog 21 #[.agg CP, .int .i64 fo] w' fun z u => z = .returned (.int .i64 rf) ∧ Below w'.heap.size w' u) := fun w' ho => HCF0.out w' (I6.out.step (ho.below (Nat.le_refl _) (by simp)))
          have HCA : Hid (∀ w', Only [] W6 w' → Calls Try.prog 21 #[.agg CP, .int .i64 a6] w' fun z u => z = .returned (.int .i64 ra) ∧ Below w'.heap.size w' u) := fun w' ho => HCA0.out w' (I6.out.step (ho.below (Nat.le_refl _) (by simp)))
          have RB : ∀ k w w', Below w.heap.size w w' → (fun (_ : Nat) (_ : World) => True) k w → (fun (_ : Nat) (_ : World) => True) k w' := fun _ _ _ _ _ => trivial
          refine wp_region_st (ow15 CP b8 fo a6 rf ra sm) (fun u u' => Only [] u u') (SeqS [] (fun (_ : Nat) (_ : World) => True)) (by kernel_rfl) (only_drew _ _) (only_trans _) (ow15_kept CP b8 fo a6 rf ra sm) (by kernel_rfl) (SeqS.start (trivial)) ?_ ?_
          · intro i o a' w' f hi inv hS hfi hfw hpre
            have ho : Only [] W6 w' := inv.grow
            have hlt : i < 9 := (Array.getElem?_eq_some_iff.1 hi).1
            obtain rfl|rfl|rfl|rfl|rfl|rfl|rfl|rfl|rfl : i = 0 ∨ i = 1 ∨ i = 2 ∨ i = 3 ∨ i = 4 ∨ i = 5 ∨ i = 6 ∨ i = 7 ∨ i = 8 := by omega
            · obtain rfl := Option.some.inj hi
              have h0 : a'.tmps.getD 5 undef = (.pointer (some ⟨b5, 0, none⟩)) := by rw [inv.old 5 (notDst_spec (by kernel_rfl))]; rfl
              exact sq_value _ rfl rfl (load_run 26 5 b5 (0) _ rfl h0 (ld26 ((HM.out w' ho).2.1))) (Below.refl _ _) (by decide) hS RB rfl
            · obtain rfl := Option.some.inj hi
              exact sq_value _ rfl rfl rfl (Below.refl _ _) (by decide) hS RB (by show a'.tmps.getD 0 undef = _; rw [inv.old 0 (notDst_spec (by kernel_rfl))]; rfl)
            · obtain rfl := Option.some.inj hi
              have h0 : a'.tmps.getD 44 undef = _ := pre_of hpre 0 44 (by kernel_rfl) (by kernel_rfl)
              have h1 : a'.tmps.getD 45 undef = _ := pre_of hpre 1 45 (by kernel_rfl) (by kernel_rfl)
              refine sq_quiet 21 #[a'.tmps.getD 44 undef, a'.tmps.getD 45 undef] rfl rfl (by kernel_rfl) (by decide) hS ?_
              rw [h0, h1]
              exact (HCF.out w' ho).mono (by rintro z u ⟨rfl, h2⟩; exact ⟨_, rfl, Only.of_below h2 _, (fun _ h => h), rfl⟩)
            · obtain rfl := Option.some.inj hi
              have h0 : a'.tmps.getD 5 undef = (.pointer (some ⟨b5, 0, none⟩)) := by rw [inv.old 5 (notDst_spec (by kernel_rfl))]; rfl
              exact sq_value _ rfl rfl (load_run 26 5 b5 (0) _ rfl h0 (ld26 ((HM.out w' ho).2.1))) (Below.refl _ _) (by decide) hS RB rfl
            · obtain rfl := Option.some.inj hi
              have h0 : a'.tmps.getD 8 undef = (.pointer (some ⟨b8, 0, none⟩)) := by rw [inv.old 8 (notDst_spec (by kernel_rfl))]; rfl
              exact sq_value _ rfl rfl (fa_run 38 5 8 b8 rfl h0 (fa38_5 b8)) (Below.refl _ _) (by decide) hS RB rfl
            · obtain rfl := Option.some.inj hi
              have h0 : a'.tmps.getD 48 undef = _ := pre_of hpre 4 48 (by kernel_rfl) (by kernel_rfl)
              exact sq_value _ rfl rfl (load_run 3 48 b8 (5) _ rfl h0 (ld3 ((HM.out w' ho).2.2))) (Below.refl _ _) (by decide) hS RB rfl
            · obtain rfl := Option.some.inj hi
              have h0 : a'.tmps.getD 47 undef = _ := pre_of hpre 3 47 (by kernel_rfl) (by kernel_rfl)
              have h1 : a'.tmps.getD 49 undef = _ := pre_of hpre 5 49 (by kernel_rfl) (by kernel_rfl)
              refine sq_quiet 21 #[a'.tmps.getD 47 undef, a'.tmps.getD 49 undef] rfl rfl (by kernel_rfl) (by decide) hS ?_
              rw [h0, h1]
              exact (HCA.out w' ho).mono (by rintro z u ⟨rfl, h2⟩; exact ⟨_, rfl, Only.of_below h2 _, (fun _ h => h), rfl⟩)
            · obtain rfl := Option.some.inj hi
              have h0 : a'.tmps.getD 46 undef = _ := pre_of hpre 2 46 (by kernel_rfl) (by kernel_rfl)
              have h1 : a'.tmps.getD 50 undef = _ := pre_of hpre 6 50 (by kernel_rfl) (by kernel_rfl)
              exact sq_value _ rfl rfl (addN_run 46 50 _ _ rfl h0 h1) (Below.refl _ _) (by decide) hS RB (by show Value.int .i64 _ = _; rw [HSUM.out])
            · obtain rfl := Option.some.inj hi
              have h0 := pre_of hpre 7 51 (by kernel_rfl) (by kernel_rfl)
              exact sq_value _ rfl rfl (rfl) (Below.refl _ _) (by decide) hS RB h0
          · intro a' w7 f inv hS hall hd
            have hk8 := hd 8 11 (by kernel_rfl)
            have ho : Only [] W6 w7 := inv.grow
            have hdf : a'.defers = [] := inv.defers
            have hsz : a'.tmps.size = 92 := inv.size
            have e := frame6_15 hsz (fun t ht => inv.old t (dstsIn_spec (ts := [11, 44, 45, 46, 47, 48, 49, 50, 51]) (by kernel_rfl) t ht))
            have hR := hS.done (fun c hc => hall c (show c < 9 by simp at hc <;> omega))
            clear inv hd hsz hall hS
            obtain ⟨tmps, defers⟩ := a'
            obtain rfl : defers = [] := hdf
            replace e : tmps = _ := e
            replace hk8 : tmps.getD 11 undef = (.int .i64 sm) := hk8
            generalize tmps.getD 11 undef = x11 at *
            generalize tmps.getD 44 undef = x44 at *
            generalize tmps.getD 45 undef = x45 at *
            generalize tmps.getD 46 undef = x46 at *
            generalize tmps.getD 47 undef = x47 at *
            generalize tmps.getD 48 undef = x48 at *
            generalize tmps.getD 49 undef = x49 at *
            generalize tmps.getD 50 undef = x50 at *
            generalize tmps.getD 51 undef = x51 at *
            simp only [Array.getD_eq_getD_getElem?, List.getElem?_toArray, List.getElem?_cons_succ, List.getElem?_cons_zero, Option.getD_some] at e
            subst e
            subst hk8
            have B7 : Hid (Below W6.heap.size W6 w7) := ho.below (Nat.le_refl _) (by simp)
            have I7 : Hid (IF w w7 b5 b8 b9 B9 fo e e1 q q1 nn c n1 c1' R R1 #[.int .i64 a1, .int .i64 a2, .int .i64 a3, .slice np l4 nc, .slice vp l5 vc, .int .i64 a6, .int .i64 a7, .int .i64 a8, .slice wq l9 wc]) := I6.out.step B7.out
            have H14 : Calls Try.prog 14 #[.agg #[.int .i64 fo, .int .i64 e, .slice q nn c], .agg #[.int .i64 a1, .int .i64 a2, .int .i64 a3, .slice np l4 nc, .slice vp l5 vc, .int .i64 a6, .int .i64 a7, .int .i64 a8, .slice wq l9 wc]] w7 fun z u => ApRows w7 z u := HAP3.out w7 (HB6.out.trans (bel_le B7.out HS6.out))
            clear HM HCF HCA hR ho HAP3 HB6 B7 I6 HS6
            obtain ⟨g0, g1, g2, -, -, -⟩ := I7.out.pf.cells
            have d0 : w7.cell? ⟨b8, 0, none⟩ = some (.int .i64 a1) := by rw [cell_of_row _ _ _ _ _ _ I7.out.be]; rfl
            have d1 : w7.cell? ⟨b8, 1, none⟩ = some (.int .i64 a2) := by rw [cell_of_row _ _ _ _ _ _ I7.out.be]; rfl
            have d2 : w7.cell? ⟨b8, 2, none⟩ = some (.int .i64 a3) := by rw [cell_of_row _ _ _ _ _ _ I7.out.be]; rfl
            have d3 : w7.cell? ⟨b8, 3, none⟩ = some (.slice np l4 nc) := by rw [cell_of_row _ _ _ _ _ _ I7.out.be]; rfl
            have d4 : w7.cell? ⟨b8, 4, none⟩ = some (.slice vp l5 vc) := by rw [cell_of_row _ _ _ _ _ _ I7.out.be]; rfl
            have d5 : w7.cell? ⟨b8, 5, none⟩ = some (.int .i64 a6) := by rw [cell_of_row _ _ _ _ _ _ I7.out.be]; rfl
            have d6 : w7.cell? ⟨b8, 6, none⟩ = some (.int .i64 a7) := by rw [cell_of_row _ _ _ _ _ _ I7.out.be]; rfl
            have d7 : w7.cell? ⟨b8, 7, none⟩ = some (.int .i64 a8) := by rw [cell_of_row _ _ _ _ _ _ I7.out.be]; rfl
            have d8 : w7.cell? ⟨b8, 8, none⟩ = some (.slice wq l9 wc) := by rw [cell_of_row _ _ _ _ _ _ I7.out.be]; rfl
            go_wp2_with fail
            refine H14.mono ?_
            rintro z w8 ⟨B8, f2, e2, q2, n2, c2, r2, rfl, hn2, HR⟩
            have J8 : Hid (JF w7 (w8.alloc (.cells #[.int .i64 f2, .int .i64 e2, .slice q2 n2 c2] 26)) w8.heap.size f2 e2 q2 n2 c2) := JF.start B8 HR
            clear H14 B8 HR g0 g1 g2 d0 d1 d2 d3 d4 d5 d6 d7 d8
            have n2' : (n2 : Int) ≤ 16 := by omega
            go_wp2_with fail
            generalize w8.alloc (.cells #[.int .i64 f2, .int .i64 e2, .slice q2 n2 c2] 26) = W8 at *
            generalize w8.heap.size = b12 at *
            go_loopw [61] (fun i wr => ∃ k : Nat, k ≤ n2 ∧ i = .int .i64 k ∧ Hid (JF w7 wr b12 f2 e2 q2 n2 c2)) (fun i _ => n2 - (intOf i).toNat)
            case atStart => exact ⟨0, by omega, rfl, J8⟩
            case round =>
              obtain ⟨k, hk1, rfl, JK⟩ := hrel
              clear J8
              have k0 : (0 : Int) ≤ (k : Int) := by omega
              have hc := JK.out.cells
              by_cases hk3 : k < n2
              · have k1 : (k : Int) < (n2 : Int) := by omega
                obtain ⟨g, o, rfl, hg1, hg2, ⟨m, hm⟩, hfz⟩ := JK.out.rows k hk3
                have J9 : Hid (JF w7 (wr.setCell ⟨g, o + k * 2 + 1, none⟩ (.int .i64 (-1))) b12 f2 e2 (some ⟨g, o, none⟩) n2 c2) := JK.out.set g _ _ hg1 hg2
                clear JK
                go_wp2_with fail
                refine ⟨⟨k + 1, by omega, by simp, J9⟩, ?_⟩
                simp only [intOf]
                omega
              · have k1 : ¬ (k : Int) < (n2 : Int) := by omega
                have I9 : Hid (IF w wr b5 b8 b9 B9 fo e e1 q q1 nn c n1 c1' R R1 #[.int .i64 a1, .int .i64 a2, .int .i64 a3, .slice np l4 nc, .slice vp l5 vc, .int .i64 a6, .int .i64 a7, .int .i64 a8, .slice wq l9 wc]) := I7.out.step JK.out.bel
                clear JK I7
                go_wp2_with fail
                have HM : Hid (∀ w', Only [] wr w' → (w'.heap[b9]? = some (.cells CQ 26 (0, 0)) ∧ CQ.size = 3) ∧ (w'.heap[b5]? = some (.cells CP 26 (0, 0)) ∧ CP.size = 3) ∧ w'.cell? ⟨b8, 5, none⟩ = some (.int .i64 a6)) := fun w' ho => HM0.out w' (I9.out.step (ho.below (Nat.le_refl _) (by simp)))
                have HCF : Hid (∀ w', Only [] wr w' → Calls Try.prog 21 #[.agg CP, .int .i64 fo] w' fun z u => z = .returned (.int .i64 rf) ∧ Below w'.heap.size w' u) := fun w' ho => HCF0.out w' (I9.out.step (ho.below (Nat.le_refl _) (by simp)))
                have HCA : Hid (∀ w', Only [] wr w' → Calls Try.prog 21 #[.agg CP, .int .i64 a6] w' fun z u => z = .returned (.int .i64 ra) ∧ Below w'.heap.size w' u) := fun w' ho => HCA0.out w' (I9.out.step (ho.below (Nat.le_refl _) (by simp)))
                have HRP : Hid (∀ w', Only [] wr w' → Calls Try.prog 20 #[.agg CP] w' fun z u => z = .returned (.bool true) ∧ Below w'.heap.size w' u) := fun w' ho => HRP0.out w' (I9.out.step (ho.below (Nat.le_refl _) (by simp)))
                have HRQ : Hid (∀ w', Only [] wr w' → Calls Try.prog 20 #[.agg CQ] w' fun z u => z = .returned (.bool true) ∧ Below w'.heap.size w' u) := fun w' ho => HRQ0.out w' (I9.out.step (ho.below (Nat.le_refl _) (by simp)))
                have RB : ∀ k w w', Below w.heap.size w w' → (fun (_ : Nat) (_ : World) => True) k w → (fun (_ : Nat) (_ : World) => True) k w' := fun _ _ _ _ _ => trivial
                refine wp_region_st (ow22 CQ CP b8 fo a6 rf ra sm) (fun u u' => Only [] u u') (SeqS [] (fun (_ : Nat) (_ : World) => True)) (by kernel_rfl) (only_drew _ _) (only_trans _) (ow22_kept CQ CP b8 fo a6 rf ra sm) (by kernel_rfl) (SeqS.start (trivial)) ?_ ?_
                · intro i o a' w' f hi inv hS hfi hfw hpre
                  have ho : Only [] wr w' := inv.grow
                  have hlt : i < 20 := (Array.getElem?_eq_some_iff.1 hi).1
                  obtain rfl|rfl|rfl|rfl|rfl|rfl|rfl|rfl|rfl|rfl|rfl|rfl|rfl|rfl|rfl|rfl|rfl|rfl|rfl|rfl : i = 0 ∨ i = 1 ∨ i = 2 ∨ i = 3 ∨ i = 4 ∨ i = 5 ∨ i = 6 ∨ i = 7 ∨ i = 8 ∨ i = 9 ∨ i = 10 ∨ i = 11 ∨ i = 12 ∨ i = 13 ∨ i = 14 ∨ i = 15 ∨ i = 16 ∨ i = 17 ∨ i = 18 ∨ i = 19 := by omega
                  · obtain rfl := Option.some.inj hi
                    have h0 : a'.tmps.getD 5 undef = (.pointer (some ⟨b5, 0, none⟩)) := by rw [inv.old 5 (notDst_spec (by kernel_rfl))]; rfl
                    exact sq_value _ rfl rfl (load_run 26 5 b5 (0) _ rfl h0 (ld26 ((HM.out w' ho).2.1))) (Below.refl _ _) (by decide) hS RB rfl
                  · obtain rfl := Option.some.inj hi
                    exact sq_value _ rfl rfl rfl (Below.refl _ _) (by decide) hS RB (by show a'.tmps.getD 0 undef = _; rw [inv.old 0 (notDst_spec (by kernel_rfl))]; rfl)
                  · obtain rfl := Option.some.inj hi
                    have h0 : a'.tmps.getD 70 undef = _ := pre_of hpre 0 70 (by kernel_rfl) (by kernel_rfl)
                    have h1 : a'.tmps.getD 71 undef = _ := pre_of hpre 1 71 (by kernel_rfl) (by kernel_rfl)
                    refine sq_quiet 21 #[a'.tmps.getD 70 undef, a'.tmps.getD 71 undef] rfl rfl (by kernel_rfl) (by decide) hS ?_
                    rw [h0, h1]
                    exact (HCF.out w' ho).mono (by rintro z u ⟨rfl, h2⟩; exact ⟨_, rfl, Only.of_below h2 _, (fun _ h => h), rfl⟩)
                  · obtain rfl := Option.some.inj hi
                    have h0 : a'.tmps.getD 5 undef = (.pointer (some ⟨b5, 0, none⟩)) := by rw [inv.old 5 (notDst_spec (by kernel_rfl))]; rfl
                    exact sq_value _ rfl rfl (load_run 26 5 b5 (0) _ rfl h0 (ld26 ((HM.out w' ho).2.1))) (Below.refl _ _) (by decide) hS RB rfl
                  · obtain rfl := Option.some.inj hi
                    have h0 : a'.tmps.getD 8 undef = (.pointer (some ⟨b8, 0, none⟩)) := by rw [inv.old 8 (notDst_spec (by kernel_rfl))]; rfl
                    exact sq_value _ rfl rfl (fa_run 38 5 8 b8 rfl h0 (fa38_5 b8)) (Below.refl _ _) (by decide) hS RB rfl
                  · obtain rfl := Option.some.inj hi
                    have h0 : a'.tmps.getD 74 undef = _ := pre_of hpre 4 74 (by kernel_rfl) (by kernel_rfl)
                    exact sq_value _ rfl rfl (load_run 3 74 b8 (5) _ rfl h0 (ld3 ((HM.out w' ho).2.2))) (Below.refl _ _) (by decide) hS RB rfl
                  · obtain rfl := Option.some.inj hi
                    have h0 : a'.tmps.getD 73 undef = _ := pre_of hpre 3 73 (by kernel_rfl) (by kernel_rfl)
                    have h1 : a'.tmps.getD 75 undef = _ := pre_of hpre 5 75 (by kernel_rfl) (by kernel_rfl)
                    refine sq_quiet 21 #[a'.tmps.getD 73 undef, a'.tmps.getD 75 undef] rfl rfl (by kernel_rfl) (by decide) hS ?_
                    rw [h0, h1]
                    exact (HCA.out w' ho).mono (by rintro z u ⟨rfl, h2⟩; exact ⟨_, rfl, Only.of_below h2 _, (fun _ h => h), rfl⟩)
                  · obtain rfl := Option.some.inj hi
                    have h0 : a'.tmps.getD 72 undef = _ := pre_of hpre 2 72 (by kernel_rfl) (by kernel_rfl)
                    have h1 : a'.tmps.getD 76 undef = _ := pre_of hpre 6 76 (by kernel_rfl) (by kernel_rfl)
                    exact sq_value _ rfl rfl (addN_run 72 76 _ _ rfl h0 h1) (Below.refl _ _) (by decide) hS RB (by show Value.int .i64 _ = _; rw [HSUM.out])
                  · obtain rfl := Option.some.inj hi
                    exact sq_value _ rfl rfl rfl (Below.refl _ _) (by decide) hS RB (by show a'.tmps.getD 11 undef = _; rw [inv.old 11 (notDst_spec (by kernel_rfl))]; rfl)
                  · obtain rfl := Option.some.inj hi
                    have h0 : a'.tmps.getD 77 undef = _ := pre_of hpre 7 77 (by kernel_rfl) (by kernel_rfl)
                    have h1 : a'.tmps.getD 78 undef = _ := pre_of hpre 8 78 (by kernel_rfl) (by kernel_rfl)
                    exact sq_value _ rfl rfl (neqN_run 77 78 _ _ rfl h0 h1) (Below.refl _ _) (by decide) hS RB (by show Value.bool _ = _; simp)
                  · obtain rfl := Option.some.inj hi
                    have h0 := pre_of hpre 9 79 (by kernel_rfl) (by kernel_rfl)
                    exact sq_value _ rfl rfl (rfl) (Below.refl _ _) (by decide) hS RB h0
                  · obtain rfl := Option.some.inj hi
                    have hgu : a'.tmps.getD 80 undef = _ := pre_of hpre 10 80 (by kernel_rfl) (by kernel_rfl)
                    have h0 : a'.tmps.getD 9 undef = (.pointer (some ⟨b9, 0, none⟩)) := by rw [inv.old 9 (notDst_spec (by kernel_rfl))]; rfl
                    exact sq_value _ rfl (wanted_of 10 80 false rfl (by kernel_rfl) hgu) (load_run 26 9 b9 (0) _ rfl h0 (ld26 ((HM.out w' ho).1))) (Below.refl _ _) (by decide) hS RB rfl
                  · obtain rfl := Option.some.inj hi
                    have hgu : a'.tmps.getD 80 undef = _ := pre_of hpre 10 80 (by kernel_rfl) (by kernel_rfl)
                    have h0 : a'.tmps.getD 81 undef = _ := pre_of hpre 11 81 (by kernel_rfl) (by kernel_rfl)
                    refine sq_quiet 20 #[a'.tmps.getD 81 undef] rfl (wanted_of 10 80 false rfl (by kernel_rfl) hgu) (by kernel_rfl) (by decide) hS ?_
                    rw [h0]
                    exact (HRQ.out w' ho).mono (by rintro z u ⟨rfl, h2⟩; exact ⟨_, rfl, Only.of_below h2 _, (fun _ h => h), rfl⟩)
                  · obtain rfl := Option.some.inj hi
                    have hgu : a'.tmps.getD 80 undef = _ := pre_of hpre 10 80 (by kernel_rfl) (by kernel_rfl)
                    have h0 : a'.tmps.getD 82 undef = _ := pre_of hpre 12 82 (by kernel_rfl) (by kernel_rfl)
                    exact sq_value _ rfl (wanted_of 10 80 false rfl (by kernel_rfl) hgu) (not_run 82 true rfl h0) (Below.refl _ _) (by decide) hS RB rfl
                  · obtain rfl := Option.some.inj hi
                    have h0 : a'.tmps.getD 80 undef = _ := pre_of hpre 10 80 (by kernel_rfl) (by kernel_rfl)
                    have h1 : a'.tmps.getD 83 undef = _ := pre_of hpre 13 83 (by kernel_rfl) (by kernel_rfl)
                    exact sq_value _ rfl rfl (pick_run 80 false _ _ _ _ rfl h0 rfl h1) (Below.refl _ _) (by decide) hS RB rfl
                  · obtain rfl := Option.some.inj hi
                    have h0 := pre_of hpre 14 84 (by kernel_rfl) (by kernel_rfl)
                    exact sq_value _ rfl rfl (rfl) (Below.refl _ _) (by decide) hS RB h0
                  · obtain rfl := Option.some.inj hi
                    have hgu : a'.tmps.getD 85 undef = _ := pre_of hpre 15 85 (by kernel_rfl) (by kernel_rfl)
                    have h0 : a'.tmps.getD 5 undef = (.pointer (some ⟨b5, 0, none⟩)) := by rw [inv.old 5 (notDst_spec (by kernel_rfl))]; rfl
                    exact sq_value _ rfl (wanted_of 15 85 false rfl (by kernel_rfl) hgu) (load_run 26 5 b5 (0) _ rfl h0 (ld26 ((HM.out w' ho).2.1))) (Below.refl _ _) (by decide) hS RB rfl
                  · obtain rfl := Option.some.inj hi
                    have hgu : a'.tmps.getD 85 undef = _ := pre_of hpre 15 85 (by kernel_rfl) (by kernel_rfl)
                    have h0 : a'.tmps.getD 86 undef = _ := pre_of hpre 16 86 (by kernel_rfl) (by kernel_rfl)
                    refine sq_quiet 20 #[a'.tmps.getD 86 undef] rfl (wanted_of 15 85 false rfl (by kernel_rfl) hgu) (by kernel_rfl) (by decide) hS ?_
                    rw [h0]
                    exact (HRP.out w' ho).mono (by rintro z u ⟨rfl, h2⟩; exact ⟨_, rfl, Only.of_below h2 _, (fun _ h => h), rfl⟩)
                  · obtain rfl := Option.some.inj hi
                    have hgu : a'.tmps.getD 85 undef = _ := pre_of hpre 15 85 (by kernel_rfl) (by kernel_rfl)
                    have h0 : a'.tmps.getD 87 undef = _ := pre_of hpre 17 87 (by kernel_rfl) (by kernel_rfl)
                    exact sq_value _ rfl (wanted_of 15 85 false rfl (by kernel_rfl) hgu) (not_run 87 true rfl h0) (Below.refl _ _) (by decide) hS RB rfl
                  · obtain rfl := Option.some.inj hi
                    have h0 : a'.tmps.getD 85 undef = _ := pre_of hpre 15 85 (by kernel_rfl) (by kernel_rfl)
                    have h1 : a'.tmps.getD 88 undef = _ := pre_of hpre 18 88 (by kernel_rfl) (by kernel_rfl)
                    exact sq_value _ rfl rfl (pick_run 85 false _ _ _ _ rfl h0 rfl h1) (Below.refl _ _) (by decide) hS RB rfl
                · intro a' w9 f inv hS hall hd
                  have hk19 := hd 19 89 (by kernel_rfl)
                  have ho : Only [] wr w9 := inv.grow
                  have hdf : a'.defers = [] := inv.defers
                  have hsz : a'.tmps.size = 92 := inv.size
                  have e := frame6_22 hsz (fun t ht => inv.old t (dstsIn_spec (ts := [70, 71, 72, 73, 74, 75, 76, 77, 78, 79, 80, 81, 82, 83, 84, 85, 86, 87, 88, 89]) (by kernel_rfl) t ht))
                  have hR := hS.done (fun c hc => hall c (show c < 20 by simp at hc <;> omega))
                  clear inv hd hsz hall hS
                  obtain ⟨tmps, defers⟩ := a'
                  obtain rfl : defers = [] := hdf
                  replace e : tmps = _ := e
                  replace hk19 : tmps.getD 89 undef = (.bool false) := hk19
                  generalize tmps.getD 70 undef = x70 at *
                  generalize tmps.getD 71 undef = x71 at *
                  generalize tmps.getD 72 undef = x72 at *
                  generalize tmps.getD 73 undef = x73 at *
                  generalize tmps.getD 74 undef = x74 at *
                  generalize tmps.getD 75 undef = x75 at *
                  generalize tmps.getD 76 undef = x76 at *
                  generalize tmps.getD 77 undef = x77 at *
                  generalize tmps.getD 78 undef = x78 at *
                  generalize tmps.getD 79 undef = x79 at *
                  generalize tmps.getD 80 undef = x80 at *
                  generalize tmps.getD 81 undef = x81 at *
                  generalize tmps.getD 82 undef = x82 at *
                  generalize tmps.getD 83 undef = x83 at *
                  generalize tmps.getD 84 undef = x84 at *
                  generalize tmps.getD 85 undef = x85 at *
                  generalize tmps.getD 86 undef = x86 at *
                  generalize tmps.getD 87 undef = x87 at *
                  generalize tmps.getD 88 undef = x88 at *
                  generalize tmps.getD 89 undef = x89 at *
                  simp only [Array.getD_eq_getD_getElem?, List.getElem?_toArray, List.getElem?_cons_succ, List.getElem?_cons_zero, Option.getD_some] at e
                  subst e
                  subst hk19
                  have I10 : Hid (IF w w9 b5 b8 b9 B9 fo e e1 q q1 nn c n1 c1' R R1 #[.int .i64 a1, .int .i64 a2, .int .i64 a3, .slice np l4 nc, .slice vp l5 vc, .int .i64 a6, .int .i64 a7, .int .i64 a8, .slice wq l9 wc]) := I9.out.step (ho.below (Nat.le_refl _) (by simp))
                  obtain ⟨u0, u1, u2⟩ := I10.out.qcells
                  obtain ⟨g0, g1, g2, s0, s1, s2⟩ := I10.out.pf.cells
                  have G9 : Hid (PF w (((w9.setCell ⟨b5, 0, none⟩ (.int .i64 fo)).setCell ⟨b5, 1, none⟩ (.int .i64 e1)).setCell ⟨b5, 2, none⟩ (.slice q1 n1 c1')) b5 fo e1 q1 n1 c1' R1) := I10.out.next
                  clear I10 I9 HM HCF HCA HRP HRQ
                  go_wp2_with fail
                  refine ⟨⟨j + 1, e1, q1, n1, c1', R1, by omega, by simp, G9⟩, ?_⟩
                  simp only [intOf]
                  omega
    · obtain rfl : j = n := by omega
      have j1 : ¬ (j : Int) < (j : Int) := by omega
      have HBW : Hid (Below w.heap.size w wr) := GJ.out.bel
      go_wp2_with fail
      go_ret
      exact ⟨rfl, HBW.out⟩
theorem own_any (fo : Int) (a1 : Option Addr) (n c1 : Nat) (w : World) (h1 : n ≤ 9223372036854775807 ∧ ∃ es : List En, es.length = n ∧ EnRow w a1 es) : Calls Try.prog 6 #[.int .i64 fo, .slice a1 n c1] w fun x w' => x = .returned (.bool true) ∧ Below w.heap.size w w' := by
  by_cases h : 30 < n
  · exact ow_many w fo a1 n c1 h1.1 h
  · by_cases hf : fo < 1 ∨ 16 < fo
    · exact ow_bad w fo a1 n c1 (by omega) hf
    · obtain ⟨-, es, rfl, hr⟩ := h1
      exact ow_main w fo a1 es c1 hr (by omega) (by omega)
end Go.Proofs.Ytmlnbbggfjgacaa.P10
