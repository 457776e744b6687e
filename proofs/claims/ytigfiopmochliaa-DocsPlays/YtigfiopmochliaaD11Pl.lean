/- The walk of DocsPlays. -/
import Derived.Test.YtigfiopmochliaaD11Base
import Derived.Test.YtigfiopmochliaaD11Put
namespace Go.Proofs.Ytigfiopmochliaa.D11
open Go.RowKit C8 E9 P10
theorem made_eq {a : En} {va : Value} {w : World} (ha : EnIs w va a) (hs : small a = true) : Calls Try.prog 12 #[va] w fun e w' => ∃ v, e = .returned v ∧ EnIs w' v a ∧ Below w.heap.size w w' :=
  made_any a va w ha (by have := (small_of hs).2.2.2; omega)
theorem rright_eq {a : En} {va : Value} {w : World} {s : Bool} (ha : EnIs w va a) (h : right a = s) : Calls Try.prog 13 #[va] w fun e w' => e = .returned (.bool s) ∧ Below w.heap.size w w' := by
  have := rRight_any a va w ha
  rwa [h] at this
theorem same_self (w : World) (q q' : Option Addr) (n c c' : Nat) (L : Col) (h : DkRow w q L) (h' : DkRow w q' L) (hn : L.length = n) (hf : n ≤ 1000000) :
    Calls Try.prog 16 #[.slice q n c, .slice q' n c'] w fun e w' => e = .returned (.bool true) ∧ Below w.heap.size w w' := by
  have hsm := rSame_any w q q' n n c c' L L h h' hn hn hf hf
  unfold RsSays at hsm
  rwa [decide_eq_true rfl] at hsm
/-- Get and the document's Get tell the same. -/
theorem both_get {L : Col} (h : Ok L) {k v : List Nat} (hg : get k L = some v) {i : Int} (hi : (∃ j : Nat, ∃ hj : j < L.length, i = j ∧ L[j].1 = k) ∨ (i = -1 ∧ ∀ p ∈ L, p.1 ≠ k)) : ∃ j : Nat, ∃ hj : j < L.length, i = j ∧ L[j].2 = v := by
  rcases hi with ⟨j, hj, e1, e2⟩ | ⟨_, hn⟩
  · refine ⟨j, hj, e1, ?_⟩
    have := get_at h hj
    rw [e2, hg] at this
    exact (Option.some.inj this).symm
  · exact absurd rfl (hn _ (get_mem hg))
theorem both_none {L : Col} {k : List Nat} (hg : get k L = none) {i : Int} (hi : (∃ j : Nat, ∃ hj : j < L.length, i = j ∧ L[j].1 = k) ∨ (i = -1 ∧ ∀ p ∈ L, p.1 ≠ k)) : i = -1 := by
  rcases hi with ⟨j, hj, e1, e2⟩ | ⟨h, _⟩
  · exact absurd e2 (get_none.1 hg _ (List.getElem_mem hj))
  · exact h
set_option maxHeartbeats 16000000 in
set_option maxRecDepth 20000 in
theorem pl_many (w : World) (a1 : Option Addr) (n c1 : Nat) (kp : Option Addr) (kn kc : Nat) (hn : 40 < n) :
    Calls Try.prog 3 #[.slice a1 n c1, .slice kp kn kc] w fun e w' => e = .returned (.bool true) ∧ Below w.heap.size w w' := by
  have k1 : (40 : Int) < (n : Int) := by omega
  go_enter Try.func3, Try.ntmps3
  go_wp2_with fail
  refine (anchor_any w).mono ?_
  rintro e w1 ⟨rfl, hb1⟩
  have HB1 : Hid (Below w.heap.size w w1) := hb1
  clear hb1
  go_wp2_with fail
  go_ret
  exact ⟨rfl, HB1.out⟩
set_option maxHeartbeats 16000000 in
set_option maxRecDepth 20000 in
theorem pl_long (w : World) (a1 : Option Addr) (n c1 : Nat) (kp : Option Addr) (kn kc : Nat) (hn : n ≤ 40) (hk : 100 < kn) :
    Calls Try.prog 3 #[.slice a1 n c1, .slice kp kn kc] w fun e w' => e = .returned (.bool true) ∧ Below w.heap.size w w' := by
  have k1 : ¬ (40 : Int) < (n : Int) := by omega
  have k3 : (100 : Int) < (kn : Int) := by omega
  go_enter Try.func3, Try.ntmps3
  go_wp2_with fail
  refine (anchor_any w).mono ?_
  rintro e w1 ⟨rfl, hb1⟩
  have HB1 : Hid (Below w.heap.size w w1) := hb1
  clear hb1
  go_wp2_with fail
  go_ret
  exact ⟨rfl, HB1.out⟩
set_option maxHeartbeats 16000000 in
set_option maxRecDepth 20000 in
theorem pl_main (w : World) (a1 : Option Addr) (n c1 : Nat) (kp : Option Addr) (kn kc : Nat) (es : List En) (k : List Nat) (hl : es.length = n) (hr1 : EnRow w a1 es) (hks : Src w (.slice kp kn kc) k) (hn : n ≤ 40) (hk : kn ≤ 100) :
    Calls Try.prog 3 #[.slice a1 n c1, .slice kp kn kc] w fun e w' => e = .returned (.bool true) ∧ Below w.heap.size w w' := by
  have k1 : ¬ (40 : Int) < (n : Int) := by omega
  have k3 : ¬ (100 : Int) < (kn : Int) := by omega
  have HR : Hid (EnRow w a1 es) := hr1
  have HN : Hid (es.length = n) := hl
  have HKS : Hid (∀ w', Below w.heap.size w w' → Src w' (.slice kp kn kc) k) := fun w' hb => hks.below hb
  have hkl : k.length ≤ maxLen := by
    obtain ⟨p, c, e, _⟩ := hks.slice
    simp only [Value.slice.injEq] at e
    unfold maxLen
    omega
  have HKL : Hid (k.length ≤ maxLen) := hkl
  have hnb : (n : Int) ≤ 40 := by omega
  have hn0 : (0 : Int) ≤ (n : Int) := by omega
  clear hl hr1 hks hkl
  go_enter Try.func3, Try.ntmps3
  go_wp2_with fail
  refine (anchor_any w).mono ?_
  rintro e w1 ⟨rfl, hb1⟩
  have HB1 : Hid (Below w.heap.size w w1) := hb1
  clear hb1
  go_wp2_with fail
  refine (New_any w1).mono ?_
  rintro e w2 ⟨p, b, rfl, hd, hp, hb, hb2⟩
  have G0 : Hid (Pl w w2 p b []) := Pl.new HB1.out hd hp hb hb2
  clear hd hp hb hb2
  go_wp2_with fail
  go_loopw [28, 6] (fun i xv wr => ∃ (j : Nat) (L : Col) (xq : Option Addr) (xc : Nat), j ≤ n ∧ i = .int .i64 j ∧ xv = .slice xq L.length xc ∧ Hid (Pl w wr p b L) ∧ Hid (DkRow wr xq L) ∧ Hid (L.length ≤ j)) (fun i _ _ => n - (intOf i).toNat)
  case atStart => exact ⟨0, [], none, 0, by omega, rfl, rfl, G0.out, DkRow.nil _ _, Nat.le_refl _⟩
  case round =>
    obtain ⟨j, L, xq, xc, hj, rfl, rfl, GJ, XJ, HJ⟩ := hrel
    clear G0
    have j0 : (0 : Int) ≤ (j : Int) := by omega
    by_cases hlt : j < n
    · have j1 : (j : Int) < (n : Int) := by omega
      obtain ⟨ln, HLN⟩ : ∃ ln, Hid (L.length = ln) := ⟨_, rfl⟩
      have HLB : Hid (L.length < 1000000) := (by have := HJ.out; omega : L.length < 1000000)
      rw [HLN.out]
      obtain ⟨bb, ob, np, nc, vp, vc, wq, wc, rfl, k2, k3', k4⟩ := HR.out j (by rw [HN.out]; exact hlt)
      generalize es[j]'(by rw [HN.out]; exact hlt) = en at *
      have HEN : Hid (∀ w', Below w.heap.size w w' → EnIs w' (.agg #[.int .i64 en.kind, .int .i64 en.writer, .int .i64 en.seq, .slice np en.name.length nc, .slice vp en.value.length vc, .int .i64 en.who, .int .i64 en.rights, .int .i64 en.epoch, .slice wq en.wraps.length wc]) en) := fun w' hb => k4.below hb
      have HYN : Hid (∀ (v : Value) (w' : World), EnIs w' v en → ∃ yp yc zp zc yq yw, v = .agg #[.int .i64 en.kind, .int .i64 en.writer, .int .i64 en.seq, .slice yp en.name.length yc, .slice zp en.value.length zc, .int .i64 en.who, .int .i64 en.rights, .int .i64 en.epoch, .slice yq en.wraps.length yw] ∧ EnIs w' (.agg #[.int .i64 en.kind, .int .i64 en.writer, .int .i64 en.seq, .slice yp en.name.length yc, .slice zp en.value.length zc, .int .i64 en.who, .int .i64 en.rights, .int .i64 en.epoch, .slice yq en.wraps.length yw]) en) := fun v w' hv => by
        obtain ⟨yp, yc, zp, zc, yq, yw, rfl, hy⟩ := hv
        exact ⟨yp, yc, zp, zc, yq, yw, rfl, yp, yc, zp, zc, yq, yw, rfl, hy⟩
      have k5 : ∀ i x, (#[.int .i64 en.kind, .int .i64 en.writer, .int .i64 en.seq, .slice np en.name.length nc, .slice vp en.value.length vc, .int .i64 en.who, .int .i64 en.rights, .int .i64 en.epoch, .slice wq en.wraps.length wc] : Array Value)[i]? = some x → wr.cell? ⟨bb, ob + j * 9 + i, none⟩ = some x := fun i x hx => (GJ.out.bel.cell (p := ⟨bb, ob + j * 9 + i, none⟩) k2).trans (k3' i x hx)
      clear k3' k4
      generalize en.name.length = n4 at *
      generalize en.value.length = n5 at *
      generalize en.wraps.length = n9 at *
      have d0 : wr.cell? ⟨bb, ob + j * 9, none⟩ = some (.int .i64 en.kind) := k5 0 _ rfl
      have d1 : wr.cell? ⟨bb, ob + j * 9 + 1, none⟩ = some (.int .i64 en.writer) := k5 1 _ rfl
      have d2 : wr.cell? ⟨bb, ob + j * 9 + 2, none⟩ = some (.int .i64 en.seq) := k5 2 _ rfl
      have d3 : wr.cell? ⟨bb, ob + j * 9 + 3, none⟩ = some (.slice np n4 nc) := k5 3 _ rfl
      have d4 : wr.cell? ⟨bb, ob + j * 9 + 4, none⟩ = some (.slice vp n5 vc) := k5 4 _ rfl
      have d5 : wr.cell? ⟨bb, ob + j * 9 + 5, none⟩ = some (.int .i64 en.who) := k5 5 _ rfl
      have d6 : wr.cell? ⟨bb, ob + j * 9 + 6, none⟩ = some (.int .i64 en.rights) := k5 6 _ rfl
      have d7 : wr.cell? ⟨bb, ob + j * 9 + 7, none⟩ = some (.int .i64 en.epoch) := k5 7 _ rfl
      have d8 : wr.cell? ⟨bb, ob + j * 9 + 8, none⟩ = some (.slice wq n9 wc) := k5 8 _ rfl
      clear k5
      obtain ⟨wa, HWA⟩ : ∃ wa, Hid (wr.alloc (.cells #[.int .i64 en.kind, .int .i64 en.writer, .int .i64 en.seq, .slice np n4 nc, .slice vp n5 vc, .int .i64 en.who, .int .i64 en.rights, .int .i64 en.epoch, .slice wq n9 wc] 30) = wa) := ⟨_, rfl⟩
      have GA : Hid (Pl w wa p b L ∧ DkRow wa xq L ∧ b < wr.heap.size) := by rw [← HWA.out]; exact ⟨GJ.out.step (bel_alloc (Nat.le_refl _) _), XJ.out.below (bel_alloc (Nat.le_refl _) _), GJ.out.dc.ltb⟩
      have HCA : Hid (wa.heap[wr.heap.size]? = some (.cells #[.int .i64 en.kind, .int .i64 en.writer, .int .i64 en.seq, .slice np n4 nc, .slice vp n5 vc, .int .i64 en.who, .int .i64 en.rights, .int .i64 en.epoch, .slice wq n9 wc] 30 (0, 0))) := by rw [← HWA.out]; exact heap_alloc_new wr _
      go_wp2_with fail
      rw [HWA.out]
      cases hs : small en with
      | false =>
        refine (small_eq (HEN.out wa GA.out.1.bel) hs).mono ?_
        rintro e w2' ⟨rfl, hx⟩
        have G2 : Hid ((Pl w w2' p b L ∧ DkRow w2' xq L ∧ b < wr.heap.size) ∧ w2'.heap[wr.heap.size]? = some (.cells #[.int .i64 en.kind, .int .i64 en.writer, .int .i64 en.seq, .slice np n4 nc, .slice vp n5 vc, .int .i64 en.who, .int .i64 en.rights, .int .i64 en.epoch, .slice wq n9 wc] 30 (0, 0))) := ⟨⟨GA.out.1.step hx, GA.out.2.1.below hx, GA.out.2.2⟩, (hx.block _ (Array.getElem?_eq_some_iff.1 HCA.out).1).trans HCA.out⟩
        clear hx d0 d1 d2 d3 d4 d5 d6 d7 d8 HWA HCA GA
        obtain ⟨c0, c1', c2, c3, c4, c5, c6, c7, c8⟩ := cells9 G2.out.2
        go_wp2_with fail
        go_ret
        exact ⟨rfl, G2.out.1.1.bel⟩
      | true =>
        refine (small_eq (HEN.out wa GA.out.1.bel) hs).mono ?_
        rintro e w2' ⟨rfl, hx⟩
        have G2 : Hid ((Pl w w2' p b L ∧ DkRow w2' xq L ∧ b < wr.heap.size) ∧ w2'.heap[wr.heap.size]? = some (.cells #[.int .i64 en.kind, .int .i64 en.writer, .int .i64 en.seq, .slice np n4 nc, .slice vp n5 vc, .int .i64 en.who, .int .i64 en.rights, .int .i64 en.epoch, .slice wq n9 wc] 30 (0, 0))) := ⟨⟨GA.out.1.step hx, GA.out.2.1.below hx, GA.out.2.2⟩, (hx.block _ (Array.getElem?_eq_some_iff.1 HCA.out).1).trans HCA.out⟩
        clear hx d0 d1 d2 d3 d4 d5 d6 d7 d8 HWA HCA GA
        obtain ⟨c0, c1', c2, c3, c4, c5, c6, c7, c8⟩ := cells9 G2.out.2
        have HSM : Hid (small en = true) := hs
        clear hs
        go_wp2_with fail
        cases hr : right en with
        | false =>
          have HRT : Hid (right en = false) := hr
          refine (apply_eq G2.out.1.1.dc (HEN.out w2' G2.out.1.1.bel) HLB.out (after_wrong L hr)).mono ?_
          rintro e w3' ⟨rfl, hd3, ho3⟩
          clear hr
          have G3 : Hid ((Pl w w3' p b L ∧ DkRow w3' xq L) ∧ w3'.heap[wr.heap.size]? = some (.cells #[.int .i64 en.kind, .int .i64 en.writer, .int .i64 en.seq, .slice np n4 nc, .slice vp n5 vc, .int .i64 en.who, .int .i64 en.rights, .int .i64 en.epoch, .slice wq n9 wc] 30 (0, 0))) := ⟨⟨G2.out.1.1.turn hd3 ho3, G2.out.1.2.1.map ho3 G2.out.1.1.dc.isMap⟩, (ho3.block _ (Array.getElem?_eq_some_iff.1 G2.out.2).1 (by have := G2.out.1.2.2; simp; omega)).trans G2.out.2⟩
          clear hd3 ho3 G2 c0 c1' c2 c3 c4 c5 c6 c7 c8
          obtain ⟨c0, c1', c2, c3, c4, c5, c6, c7, c8⟩ := cells9 G3.out.2
          go_wp2_with fail
          refine (made_eq (HEN.out w3' G3.out.1.1.bel) HSM.out).mono ?_
          rintro e w4' ⟨v, rfl, hv, hb4⟩
          obtain ⟨yp, yc, zp, zc, yq, yw, rfl, hv⟩ := HYN.out v w4' hv
          obtain ⟨w5', HW5⟩ : ∃ w5', Hid (w4'.alloc (.cells #[.int .i64 en.kind, .int .i64 en.writer, .int .i64 en.seq, .slice yp n4 yc, .slice zp n5 zc, .int .i64 en.who, .int .i64 en.rights, .int .i64 en.epoch, .slice yq n9 yw] 36) = w5') := ⟨_, rfl⟩
          have hb5 : Below w4'.heap.size w4' w5' := by rw [← HW5.out]; exact bel_alloc (Nat.le_refl _) _
          have G5 : Hid ((Pl w w5' p b L ∧ DkRow w5' xq L) ∧ w5'.heap[w4'.heap.size]? = some (.cells #[.int .i64 en.kind, .int .i64 en.writer, .int .i64 en.seq, .slice yp n4 yc, .slice zp n5 zc, .int .i64 en.who, .int .i64 en.rights, .int .i64 en.epoch, .slice yq n9 yw] 36 (0, 0))) := ⟨⟨(G3.out.1.1.step hb4).step hb5, (G3.out.1.2.below hb4).below hb5⟩, by rw [← HW5.out]; exact heap_alloc_new w4' _⟩
          have HY5 : Hid (EnIs w5' (.agg #[.int .i64 en.kind, .int .i64 en.writer, .int .i64 en.seq, .slice yp n4 yc, .slice zp n5 zc, .int .i64 en.who, .int .i64 en.rights, .int .i64 en.epoch, .slice yq n9 yw]) en) := hv.below hb5
          clear hv hb4 hb5 G3 c0 c1' c2 c3 c4 c5 c6 c7 c8
          go_wp2_with fail
          rw [HW5.out]
          refine (rright_eq HY5.out HRT.out).mono ?_
          rintro e w6' ⟨rfl, hb6⟩
          have G6 : Hid ((Pl w w6' p b L ∧ DkRow w6' xq L) ∧ w6'.heap[w4'.heap.size]? = some (.cells #[.int .i64 en.kind, .int .i64 en.writer, .int .i64 en.seq, .slice yp n4 yc, .slice zp n5 zc, .int .i64 en.who, .int .i64 en.rights, .int .i64 en.epoch, .slice yq n9 yw] 36 (0, 0))) := ⟨⟨G5.out.1.1.step hb6, G5.out.1.2.below hb6⟩, (hb6.block _ (Array.getElem?_eq_some_iff.1 G5.out.2).1).trans G5.out.2⟩
          have HY6 : Hid (EnIs w6' (.agg #[.int .i64 en.kind, .int .i64 en.writer, .int .i64 en.seq, .slice yp n4 yc, .slice zp n5 zc, .int .i64 en.who, .int .i64 en.rights, .int .i64 en.epoch, .slice yq n9 yw]) en) := HY5.out.below hb6
          clear hb6 G5 HY5 HW5
          go_wp2_with fail
          refine ⟨⟨j + 1, L, xq, xc, by omega, by simp, by rw [HLN.out], G6.out.1.1, G6.out.1.2, Nat.le_succ_of_le HJ.out⟩, ?_⟩
          simp only [intOf]
          omega
        | true =>
          have HRT : Hid (right en = true) := hr
          have OKL : Hid (Ok L) := G2.out.1.1.dc.ok
          have HML : Hid ((after L en).1.length ≤ j + 1) := Nat.le_trans (after_len L en) (Nat.succ_le_succ HJ.out)
          have HRA : Hid (∀ w', DkRow w' xq L → Ok L → ∀ v, EnIs w' v en → Calls Try.prog 14 #[.slice xq ln xc, v] w' fun e u => RaSays w' (after L en).1 (after L en).2 e u) := fun w' h1 h2 v h3 => rApply_any w' xq ln xc L en v h1 h2 HLN.out (by rw [← HLN.out]; exact HLB.out) h3 hr
          refine (apply_eq (M := (after L en).1) (x := (after L en).2) G2.out.1.1.dc (HEN.out w2' G2.out.1.1.bel) HLB.out rfl).mono ?_
          rintro e w3' ⟨rfl, hd3, ho3⟩
          generalize (after L en).1 = M at *
          generalize (after L en).2 = x at *
          clear hr
          have G3 : Hid ((Pl w w3' p b M ∧ DkRow w3' xq L) ∧ w3'.heap[wr.heap.size]? = some (.cells #[.int .i64 en.kind, .int .i64 en.writer, .int .i64 en.seq, .slice np n4 nc, .slice vp n5 vc, .int .i64 en.who, .int .i64 en.rights, .int .i64 en.epoch, .slice wq n9 wc] 30 (0, 0))) := ⟨⟨G2.out.1.1.turn hd3 ho3, G2.out.1.2.1.map ho3 G2.out.1.1.dc.isMap⟩, (ho3.block _ (Array.getElem?_eq_some_iff.1 G2.out.2).1 (by have := G2.out.1.2.2; simp; omega)).trans G2.out.2⟩
          clear hd3 ho3 G2 c0 c1' c2 c3 c4 c5 c6 c7 c8
          obtain ⟨c0, c1', c2, c3, c4, c5, c6, c7, c8⟩ := cells9 G3.out.2
          go_wp2_with fail
          refine (made_eq (HEN.out w3' G3.out.1.1.bel) HSM.out).mono ?_
          rintro e w4' ⟨v, rfl, hv, hb4⟩
          obtain ⟨yp, yc, zp, zc, yq, yw, rfl, hv⟩ := HYN.out v w4' hv
          obtain ⟨w5', HW5⟩ : ∃ w5', Hid (w4'.alloc (.cells #[.int .i64 en.kind, .int .i64 en.writer, .int .i64 en.seq, .slice yp n4 yc, .slice zp n5 zc, .int .i64 en.who, .int .i64 en.rights, .int .i64 en.epoch, .slice yq n9 yw] 36) = w5') := ⟨_, rfl⟩
          have hb5 : Below w4'.heap.size w4' w5' := by rw [← HW5.out]; exact bel_alloc (Nat.le_refl _) _
          have G5 : Hid ((Pl w w5' p b M ∧ DkRow w5' xq L) ∧ w5'.heap[w4'.heap.size]? = some (.cells #[.int .i64 en.kind, .int .i64 en.writer, .int .i64 en.seq, .slice yp n4 yc, .slice zp n5 zc, .int .i64 en.who, .int .i64 en.rights, .int .i64 en.epoch, .slice yq n9 yw] 36 (0, 0))) := ⟨⟨(G3.out.1.1.step hb4).step hb5, (G3.out.1.2.below hb4).below hb5⟩, by rw [← HW5.out]; exact heap_alloc_new w4' _⟩
          have HY5 : Hid (EnIs w5' (.agg #[.int .i64 en.kind, .int .i64 en.writer, .int .i64 en.seq, .slice yp n4 yc, .slice zp n5 zc, .int .i64 en.who, .int .i64 en.rights, .int .i64 en.epoch, .slice yq n9 yw]) en) := hv.below hb5
          clear hv hb4 hb5 G3 c0 c1' c2 c3 c4 c5 c6 c7 c8
          go_wp2_with fail
          rw [HW5.out]
          refine (rright_eq HY5.out HRT.out).mono ?_
          rintro e w6' ⟨rfl, hb6⟩
          have G6 : Hid ((Pl w w6' p b M ∧ DkRow w6' xq L) ∧ w6'.heap[w4'.heap.size]? = some (.cells #[.int .i64 en.kind, .int .i64 en.writer, .int .i64 en.seq, .slice yp n4 yc, .slice zp n5 zc, .int .i64 en.who, .int .i64 en.rights, .int .i64 en.epoch, .slice yq n9 yw] 36 (0, 0))) := ⟨⟨G5.out.1.1.step hb6, G5.out.1.2.below hb6⟩, (hb6.block _ (Array.getElem?_eq_some_iff.1 G5.out.2).1).trans G5.out.2⟩
          have HY6 : Hid (EnIs w6' (.agg #[.int .i64 en.kind, .int .i64 en.writer, .int .i64 en.seq, .slice yp n4 yc, .slice zp n5 zc, .int .i64 en.who, .int .i64 en.rights, .int .i64 en.epoch, .slice yq n9 yw]) en) := HY5.out.below hb6
          clear hb6 G5 HY5 HW5
          obtain ⟨c0, c1', c2, c3, c4, c5, c6, c7, c8⟩ := cells9 G6.out.2
          go_wp2_with fail
          refine (HRA.out w6' G6.out.1.2 OKL.out _ HY6.out).mono ?_
          rintro e w7' ⟨zq, zc', rfl, hz7, hb7⟩
          have G7 : Hid (Pl w w7' p b M ∧ DkRow w7' zq M) := ⟨G6.out.1.1.step hb7, hz7⟩
          clear hz7 hb7 G6 HY6 HRA c0 c1' c2 c3 c4 c5 c6 c7 c8
          obtain ⟨mn, HMN⟩ : ∃ mn, Hid (M.length = mn) := ⟨_, rfl⟩
          have HMB : Hid (mn ≤ 1000000) := by have h1 := HML.out; have h2 := HMN.out; have h3 : mn ≤ 1000000 := (by omega); exact h3
          rw [HMN.out]
          go_wp2_with fail
          refine (Len_any w7' p b M G7.out.1.dc).mono ?_
          rintro e w7'' ⟨rfl, rfl⟩
          rw [HMN.out]
          go_wp2_with fail
          refine (All_any w7'' p b M G7.out.1.dc).mono ?_
          intro e w8 hx
          obtain ⟨q8, c8', rfl, hr8, hb8⟩ := hx.row
          clear hx
          have G8 : Hid ((Pl w w8 p b M ∧ DkRow w8 zq M) ∧ DkRow w8 q8 M) := ⟨⟨G7.out.1.step hb8, G7.out.2.below hb8⟩, hr8⟩
          clear hb8 hr8 G7
          rw [HMN.out]
          go_wp2_with fail
          refine (madeDocs_any w8 q8 mn c8' M G8.out.2 HMN.out HMB.out).mono ?_
          rintro e w9 ⟨q9, c9', rfl, hr9, hb9⟩
          have G9 : Hid ((Pl w w9 p b M ∧ DkRow w9 zq M) ∧ DkRow w9 q9 M) := ⟨⟨G8.out.1.1.step hb9, G8.out.1.2.below hb9⟩, hr9⟩
          clear hb9 hr9 G8
          go_wp2_with fail
          refine (same_self w9 q9 zq mn c9' zc' M G9.out.2 G9.out.1.2 HMN.out HMB.out).mono ?_
          rintro e w10 ⟨rfl, hb10⟩
          have G10 : Hid (Pl w w10 p b M ∧ DkRow w10 zq M) := ⟨G9.out.1.1.step hb10, G9.out.1.2.below hb10⟩
          clear hb10 G9
          go_wp2_with fail
          refine (Get_any w10 p b M kp kn kc k G10.out.1.dc (HKS.out w10 G10.out.1.bel) HKL.out).mono ?_
          rintro e w11 ⟨gv, rfl, hgv, hb11⟩
          have G11 : Hid ((Pl w w11 p b M ∧ DkRow w11 zq M) ∧ Src w11 gv ((get k M).getD [])) := ⟨⟨G10.out.1.step hb11, G10.out.2.below hb11⟩, hgv⟩
          clear hb11 hgv G10
          obtain ⟨gp, gc', hge, -⟩ := G11.out.2.slice
          subst hge
          go_wp2_with fail
          refine (rGet_any w11 zq kp mn zc' kn kc M k G11.out.1.2 HMN.out HMB.out (HKS.out w11 G11.out.1.1.bel)).mono ?_
          rintro e w12 ⟨ix, rfl, hix, hb12⟩
          have G12 : Hid ((Pl w w12 p b M ∧ DkRow w12 zq M) ∧ Src w12 (.slice gp ((get k M).getD []).length gc') ((get k M).getD [])) := ⟨⟨G11.out.1.1.step hb12, G11.out.1.2.below hb12⟩, G11.out.2.below hb12⟩
          clear hb12 G11
          have HFIN : Hid (∀ w', w' = w12.drew → (Pl w w' p b M ∧ DkRow w' zq M)) := fun w' hw => by
            subst hw
            have hd := C8.below_drewN 1 w12 w12.heap.size
            exact ⟨G12.out.1.1.step hd, G12.out.1.2.below hd⟩
          cases hg : get k M with
          | none =>
            have hi1 : ix = -1 := both_none hg hix
            subst hi1
            clear hix
            simp only [hg, Option.isSome_none, Option.getD_none, List.length_nil] at *
            clear hg
            go_wp2_with fail
            go_region
            all_goals go_wp2_with fail
            all_goals refine ⟨⟨j + 1, M, zq, zc', by omega, by simp, by rw [HMN.out], (HFIN.out _ rfl).1, (HFIN.out _ rfl).2, HML.out⟩, ?_⟩
            all_goals simp only [intOf]
            all_goals omega
          | some v =>
            obtain ⟨jx, hjx, rfl, hvx⟩ := both_get G12.out.1.1.dc.ok hg hix
            clear hix
            obtain ⟨b5, o5, p5, c5', p6, c6', rfl, m2, m3, m4, m5, m6⟩ := G12.out.1.2 jx hjx
            have i1 : (jx : Int) < (mn : Int) := by have := HMN.out; omega
            have i0 : (0 : Int) ≤ (jx : Int) := by omega
            simp only [hg, Option.isSome_some, Option.getD_some] at *
            have hx1 := conv_src (w := w12.drew) (show Src w12 _ _ from G12.out.2)
            have hx2 := conv_src (w := w12.drew) (show Src w12 _ _ from m6)
            have hq := strB_beqL G12.out.2.small m6.small
            rw [decide_eq_true hvx.symm] at hq
            clear m3 m5 m6 m2 hg
            generalize strB M[jx].2 = s2 at *
            generalize strB v = s1 at *
            generalize M[jx].2.length = l2 at *
            clear hvx hjx
            go_wp2_with fail
            go_region
            all_goals go_wp2_with fail
            all_goals refine ⟨⟨j + 1, M, _, zc', by omega, by simp, by rw [HMN.out], (HFIN.out _ rfl).1, (HFIN.out _ rfl).2, HML.out⟩, ?_⟩
            all_goals simp only [intOf]
            all_goals omega
    · obtain rfl : j = n := by omega
      have j1 : ¬ (j : Int) < (j : Int) := by omega
      generalize L.length = ln at *
      go_wp2_with fail
      go_ret
      exact ⟨rfl, GJ.out.bel⟩
theorem plays_any (w : World) (a1 : Option Addr) (n c1 : Nat) (kp : Option Addr) (kn kc : Nat) (h1 : n ≤ 9223372036854775807 ∧ ∃ es : List En, es.length = n ∧ EnRow w a1 es) (k : List Nat) (hk : Src w (.slice kp kn kc) k) :
    Calls Try.prog 3 #[.slice a1 n c1, .slice kp kn kc] w fun e w' => e = .returned (.bool true) ∧ Below w.heap.size w w' := by
  obtain ⟨_, es, hl, hr⟩ := h1
  by_cases hn : n ≤ 40
  · by_cases hk' : kn ≤ 100
    · exact pl_main w a1 n c1 kp kn kc es k hl hr hk hn hk'
    · exact pl_long w a1 n c1 kp kn kc hn (by omega)
  · exact pl_many w a1 n c1 kp kn kc (by omega)
end Go.Proofs.Ytigfiopmochliaa.D11
