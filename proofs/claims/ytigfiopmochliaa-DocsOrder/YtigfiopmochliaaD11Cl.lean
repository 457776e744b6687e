/- The walk of DocsClones. -/
import Derived.Test.YtigfiopmochliaaD11ClB
import Derived.Test.YtigfiopmochliaaD11Put
namespace Go.Proofs.Ytigfiopmochliaa.D11
open Go.RowKit C8 E9 P10
theorem same_two (w : World) (q q' : Option Addr) (n m c c' : Nat) (L M : Col) (h : DkRow w q L) (h' : DkRow w q' M) (hn : L.length = n) (hm : M.length = m) (hf : n ≤ 1000000) (hg : m ≤ 1000000) {s : Bool} (hs : decide (L = M) = s) :
    Calls Try.prog 16 #[.slice q n c, .slice q' m c'] w fun e w' => e = .returned (.bool s) ∧ Below w.heap.size w w' := by
  have hsm := rSame_any w q q' n m c c' L M h h' hn hm hf hg
  unfold RsSays at hsm
  rwa [hs] at hsm
theorem same_eq (w : World) (p b p' b' : Nat) (L M : Col) (h : DcIs w p b L) (h' : DcIs w p' b' M) {s : Bool} (hs : decide (L = M) = s) : Calls Try.prog 24 #[.pointer (some ⟨p, 0, none⟩), .pointer (some ⟨p', 0, none⟩)] w fun e w' => e = .returned (.bool s) ∧ Below w.heap.size w w' := by
  have := Same_any w p b p' b' L M h h'
  rwa [hs] at this
theorem frozen_byte {w : World} {g i : Nat} {cs : Array Value} {fr : Nat × Nat} (h : w.heap[g]? = some (.cells cs 5 fr)) (h1 : fr.1 = cs.size) (hi : i < cs.size) : w.frozen? ⟨g, i, none⟩ = false := by
  obtain ⟨lo, hi'⟩ := fr
  simp only at h1
  simp [World.frozen?, h]
  omega
theorem Al.rw_of {A : Nat} {w w' : World} {q : Option Addr} {n c : Nat} {xs : List Value} {y : Value} (h : Al A w q n c xs) {j : Nat} (hj : j < n) {g : Nat} (hq : q = some ⟨g, 0, none⟩) (hy : w.cell? ⟨g, j * 2 + 1, none⟩ = some y) (h' : Al A w' q n c xs) : Rw A w' y := by
  obtain ⟨hl, ⟨e1, e0⟩ | ⟨g', cap, cur, e1, hg, hh, hnc, hm, hcs, ht⟩⟩ := h.own
  · omega
  · simp only [Value.slice.injEq] at e1
    obtain ⟨rfl, -, rfl⟩ := e1
    simp only [Option.some.injEq, Addr.mk.injEq, and_true] at hq
    subst hq
    have l2 : j * 2 + 1 < xs.length := by omega
    have k1 : xs[j * 2 + 1]? = some xs[j * 2 + 1] := List.getElem?_eq_getElem l2
    conv at k1 => lhs; rw [← ht]
    rw [List.getElem?_take_of_lt (by omega)] at k1
    rw [cell_of_row _ _ _ _ _ _ hh] at hy
    have : y = xs[j * 2 + 1] := by
      rw [Array.getElem?_toList, hy] at k1
      exact Option.some.inj k1
    rw [this]
    exact h'.each _ (List.getElem_mem l2)
set_option maxHeartbeats 16000000 in
set_option maxRecDepth 20000 in
theorem cl_many (w : World) (a1 : Option Addr) (n c1 : Nat) (a2 : Option Addr) (m c2' : Nat) (hn : 20 < n) :
    Calls Try.prog 5 #[.slice a1 n c1, .slice a2 m c2'] w fun e w' => e = .returned (.bool true) ∧ Below w.heap.size w w' := by
  have k1 : (20 : Int) < (n : Int) := by omega
  go_enter Try.func5, Try.ntmps5
  go_wp2_with fail
  refine (anchor_any w).mono ?_
  rintro e w1 ⟨rfl, hb1⟩
  have HB1 : Hid (Below w.heap.size w w1) := hb1
  clear hb1
  go_wp2_with fail
  go_ret
  exact ⟨rfl, HB1.out⟩
set_option maxHeartbeats 16000000 in
set_option maxRecDepth 20000 in
theorem cl_more (w : World) (a1 : Option Addr) (n c1 : Nat) (a2 : Option Addr) (m c2' : Nat) (hn : n ≤ 20) (hm : 20 < m) :
    Calls Try.prog 5 #[.slice a1 n c1, .slice a2 m c2'] w fun e w' => e = .returned (.bool true) ∧ Below w.heap.size w w' := by
  have k1 : ¬ (20 : Int) < (n : Int) := by omega
  have k3 : (20 : Int) < (m : Int) := by omega
  go_enter Try.func5, Try.ntmps5
  go_wp2_with fail
  refine (anchor_any w).mono ?_
  rintro e w1 ⟨rfl, hb1⟩
  have HB1 : Hid (Below w.heap.size w w1) := hb1
  clear hb1
  go_wp2_with fail
  go_ret
  exact ⟨rfl, HB1.out⟩
set_option maxHeartbeats 16000000 in
set_option maxRecDepth 20000 in
theorem cl_main (w : World) (a1 : Option Addr) (n c1 : Nat) (a2 : Option Addr) (m c2' : Nat) (es : List En) (hl : es.length = n) (hr1 : EnRow w a1 es) (fs : List En) (hl2 : fs.length = m) (hr2 : EnRow w a2 fs) (hn : n ≤ 20) (hm : m ≤ 20) :
    Calls Try.prog 5 #[.slice a1 n c1, .slice a2 m c2'] w fun e w' => e = .returned (.bool true) ∧ Below w.heap.size w w' := by
  have k1 : ¬ (20 : Int) < (n : Int) := by omega
  have k3 : ¬ (20 : Int) < (m : Int) := by omega
  have HR : Hid (EnRow w a1 es) := hr1
  have HN : Hid (es.length = n) := hl
  have HR2 : Hid (EnRow w a2 fs) := hr2
  have HN2 : Hid (fs.length = m) := hl2
  have hnb : (n : Int) ≤ 20 := by omega
  have hn0 : (0 : Int) ≤ (n : Int) := by omega
  have hmb : (m : Int) ≤ 20 := by omega
  have hm0 : (0 : Int) ≤ (m : Int) := by omega
  clear hl hr1 hl2 hr2
  go_enter Try.func5, Try.ntmps5
  go_wp2_with fail
  refine (anchor_any w).mono ?_
  rintro e w1 ⟨rfl, hb1⟩
  have HB1 : Hid (Below w.heap.size w w1) := hb1
  clear hb1
  go_wp2_with fail
  refine (New_any w1).mono ?_
  rintro e w2 ⟨p, b, rfl, hd, hp, hb, hb2⟩
  have G0 : Hid (Pl w w2 p b []) := Pl.new HB1.out hd hp hb hb2
  clear hd hp hb hb2
  go_wp2_with fail
  go_loopw [28] (fun i wr => ∃ (j : Nat) (L : Col), j ≤ n ∧ i = .int .i64 j ∧ Hid (Pl w wr p b L) ∧ Hid (L.length ≤ j)) (fun i _ => n - (intOf i).toNat)
  case atStart => exact ⟨0, [], by omega, rfl, G0.out, Nat.le_refl _⟩
  case round =>
    obtain ⟨j, L, hj, rfl, GJ, HJ⟩ := hrel
    clear G0
    have j0 : (0 : Int) ≤ (j : Int) := by omega
    by_cases hlt : j < n
    · have j1 : (j : Int) < (n : Int) := by omega
      obtain ⟨bb, ob, np, nc, vp, vc, wq, wc, hrfl, k2, k3', k4⟩ := HR.out j (by rw [HN.out]; exact hlt)
      subst hrfl
      generalize es[j]'(by rw [HN.out]; exact hlt) = en at *
      have HEN : Hid (∀ w', Below w.heap.size w w' → EnIs w' (.agg #[.int .i64 en.kind, .int .i64 en.writer, .int .i64 en.seq, .slice np en.name.length nc, .slice vp en.value.length vc, .int .i64 en.who, .int .i64 en.rights, .int .i64 en.epoch, .slice wq en.wraps.length wc]) en) := fun w' hb => k4.below hb
      have k5 : ∀ i x, (#[.int .i64 en.kind, .int .i64 en.writer, .int .i64 en.seq, .slice np en.name.length nc, .slice vp en.value.length vc, .int .i64 en.who, .int .i64 en.rights, .int .i64 en.epoch, .slice wq en.wraps.length wc] : Array Value)[i]? = some x → wr.cell? ⟨bb, ob + j * 9 + i, none⟩ = some x := fun i x hx => ((GJ.out.bel).cell (p := ⟨bb, ob + j * 9 + i, none⟩) k2).trans (k3' i x hx)
      clear k3' k4
      generalize en.name.length = n4 at *
      generalize en.value.length = n5 at *
      generalize en.wraps.length = n9 at *
      have d0 : wr.cell? ⟨bb, ob + j * 9, none⟩ = some (.int .i64 en.kind) := k5 0 _ rfl
      have d1 : wr.cell? ⟨bb, ob + j * 9 + 1, none⟩ = some (.int .i64 en.writer) := k5 1 _ rfl
      have d2 : wr.cell? ⟨bb, ob + j * 9 + 2, none⟩ = some (.int .i64 en.seq) := k5 2 _ rfl
      have d3 : wr.cell? ⟨bb, ob + j * 9 + 3, none⟩ = some (.slice np n4 nc) := k5 3 _ rfl
      have d4 : wr.cell? ⟨bb, ob + j * 9 + 4, none⟩ = some (.slice vp n5 vc) := k5 4 _ rfl
      have d5 : wr.cell? ⟨bb, ob + j * 9 + 5, none⟩ = some (.int .i64 en.who) := k5 5 _ rfl
      have d6 : wr.cell? ⟨bb, ob + j * 9 + 6, none⟩ = some (.int .i64 en.rights) := k5 6 _ rfl
      have d7 : wr.cell? ⟨bb, ob + j * 9 + 7, none⟩ = some (.int .i64 en.epoch) := k5 7 _ rfl
      have d8 : wr.cell? ⟨bb, ob + j * 9 + 8, none⟩ = some (.slice wq n9 wc) := k5 8 _ rfl
      clear k5
      obtain ⟨wa, HWA⟩ : ∃ wa, Hid (wr.alloc (.cells #[.int .i64 en.kind, .int .i64 en.writer, .int .i64 en.seq, .slice np n4 nc, .slice vp n5 vc, .int .i64 en.who, .int .i64 en.rights, .int .i64 en.epoch, .slice wq n9 wc] 30) = wa) := ⟨_, rfl⟩
      have hxa : Below wr.heap.size wr wa := by rw [← HWA.out]; exact bel_alloc (Nat.le_refl _) _
      have GA : Hid (Pl w wa p b L) := GJ.out.step hxa
      have HCA : Hid (wa.heap[wr.heap.size]? = some (.cells #[.int .i64 en.kind, .int .i64 en.writer, .int .i64 en.seq, .slice np n4 nc, .slice vp n5 vc, .int .i64 en.who, .int .i64 en.rights, .int .i64 en.epoch, .slice wq n9 wc] 30 (0, 0))) := by rw [← HWA.out]; exact heap_alloc_new wr _
      clear hxa
      go_wp2_with fail
      rw [HWA.out]
      cases hs : small en with
      | false =>
        refine (small_eq (HEN.out wa (GA.out.bel)) hs).mono ?_
        rintro e w2' ⟨rfl, hx⟩
        have G2 : Hid ((Pl w w2' p b L) ∧ w2'.heap[wr.heap.size]? = some (.cells #[.int .i64 en.kind, .int .i64 en.writer, .int .i64 en.seq, .slice np n4 nc, .slice vp n5 vc, .int .i64 en.who, .int .i64 en.rights, .int .i64 en.epoch, .slice wq n9 wc] 30 (0, 0))) := ⟨GA.out.step hx, (hx.block _ (Array.getElem?_eq_some_iff.1 HCA.out).1).trans HCA.out⟩
        clear hx d0 d1 d2 d3 d4 d5 d6 d7 d8 HWA HCA GA hs
        obtain ⟨c0, c1', c2, c3, c4, c5, c6, c7, c8⟩ := cells9 G2.out.2
        go_wp2_with fail
        go_ret
        exact ⟨rfl, G2.out.1.bel⟩
      | true =>
        refine (small_eq (HEN.out wa (GA.out.bel)) hs).mono ?_
        rintro e w2' ⟨rfl, hx⟩
        have G2 : Hid ((Pl w w2' p b L) ∧ w2'.heap[wr.heap.size]? = some (.cells #[.int .i64 en.kind, .int .i64 en.writer, .int .i64 en.seq, .slice np n4 nc, .slice vp n5 vc, .int .i64 en.who, .int .i64 en.rights, .int .i64 en.epoch, .slice wq n9 wc] 30 (0, 0))) := ⟨GA.out.step hx, (hx.block _ (Array.getElem?_eq_some_iff.1 HCA.out).1).trans HCA.out⟩
        clear hx d0 d1 d2 d3 d4 d5 d6 d7 d8 HWA HCA GA hs
        obtain ⟨c0, c1', c2, c3, c4, c5, c6, c7, c8⟩ := cells9 G2.out.2
        go_wp2_with fail
        refine (Apply_any w2' p b L en _ G2.out.1.dc (HEN.out w2' G2.out.1.bel) (by have := HJ.out; omega)).mono ?_
        rintro e w3' ⟨rfl, hd3, ho3⟩
        have G3 : Hid (Pl w w3' p b (after L en).1) := G2.out.1.turn hd3 ho3
        have HJ3 : Hid ((after L en).1.length ≤ j + 1) := Nat.le_trans (after_len L en) (Nat.succ_le_succ HJ.out)
        clear hd3 ho3 c0 c1' c2 c3 c4 c5 c6 c7 c8
        generalize (after L en).1 = M at *
        generalize (after L en).2 = x at *
        go_wp2_with fail
        refine ⟨⟨j + 1, M, by omega, by simp, G3, HJ3⟩, ?_⟩
        simp only [intOf]
        omega
    · obtain rfl : j = n := by omega
      have j1 : ¬ (j : Int) < (j : Int) := by omega
      have HLB : Hid (L.length ≤ 20) := (by have := HJ.out; omega : L.length ≤ 20)
      obtain ⟨ln, HLN⟩ : ∃ ln, Hid (L.length = ln) := ⟨_, rfl⟩
      have HLM : Hid (ln ≤ 1000000) := (by have := HLB.out; have := HLN.out; omega : ln ≤ 1000000)
      go_wp2_with fail
      refine (Clone_any wr p b L GJ.out.dc).mono ?_
      rintro e w3 ⟨p', b', rfl, hd3, hp3, hb3', hb3⟩
      have HNE : Hid (p ≠ b' ∧ b ≠ b') := ⟨by have := GJ.out.dc.ltp; omega, by have := GJ.out.dc.ltb; omega⟩
      have G3 : Hid (Pl w w3 p b L ∧ Pl w w3 p' b' L) := ⟨GJ.out.step hb3, Pl.new GJ.out.bel hd3 hp3 hb3' hb3⟩
      clear hd3 hp3 hb3' hb3 GJ
      go_wp2_with fail
      refine (All_any w3 p b L G3.out.1.dc).mono ?_
      intro e w4 hx
      obtain ⟨q4, c4', rfl, hr4, hb4⟩ := hx.row
      clear hx
      have G4 : Hid ((Pl w w4 p b L ∧ Pl w w4 p' b' L) ∧ DkRow w4 q4 L) := ⟨⟨G3.out.1.step hb4, G3.out.2.step hb4⟩, hr4⟩
      clear hb4 hr4 G3
      rw [HLN.out]
      go_wp2_with fail
      refine (madeDocs_any w4 q4 ln c4' L G4.out.2 HLN.out HLM.out).mono ?_
      rintro e w5 ⟨q5, c5', rfl, hr5, hb5⟩
      have G5 : Hid ((Pl w w5 p b L ∧ Pl w w5 p' b' L) ∧ DkRow w5 q5 L) := ⟨⟨G4.out.1.1.step hb5, G4.out.1.2.step hb5⟩, hr5⟩
      clear hb5 hr5 G4
      go_wp2_with fail
      clear wr hlt j1 j0 hj
      go_loopw [46] (fun i wr => ∃ (i2 : Nat) (M : Col), i2 ≤ m ∧ i = .int .i64 i2 ∧ Hid ((Pl w wr p b L ∧ Pl w wr p' b' M) ∧ DkRow wr q5 L) ∧ Hid (M.length ≤ 20 + i2)) (fun i _ => m - (intOf i).toNat)
      case atStart => exact ⟨0, L, by omega, rfl, G5.out, HLB.out⟩
      case round =>
        obtain ⟨i2, M, hi2, rfl, GJ, HI2⟩ := hrel
        clear G5
        have j0 : (0 : Int) ≤ (i2 : Int) := by omega
        by_cases hlt : i2 < m
        · have j1 : (i2 : Int) < (m : Int) := by omega
          obtain ⟨bb, ob, np, nc, vp, vc, wq, wc, hrfl, k2, k3', k4⟩ := HR2.out i2 (by rw [HN2.out]; exact hlt)
          subst hrfl
          generalize fs[i2]'(by rw [HN2.out]; exact hlt) = en at *
          have HEN : Hid (∀ w', Below w.heap.size w w' → EnIs w' (.agg #[.int .i64 en.kind, .int .i64 en.writer, .int .i64 en.seq, .slice np en.name.length nc, .slice vp en.value.length vc, .int .i64 en.who, .int .i64 en.rights, .int .i64 en.epoch, .slice wq en.wraps.length wc]) en) := fun w' hb => k4.below hb
          have k5 : ∀ i x, (#[.int .i64 en.kind, .int .i64 en.writer, .int .i64 en.seq, .slice np en.name.length nc, .slice vp en.value.length vc, .int .i64 en.who, .int .i64 en.rights, .int .i64 en.epoch, .slice wq en.wraps.length wc] : Array Value)[i]? = some x → wr.cell? ⟨bb, ob + i2 * 9 + i, none⟩ = some x := fun i x hx => ((GJ.out.1.1.bel).cell (p := ⟨bb, ob + i2 * 9 + i, none⟩) k2).trans (k3' i x hx)
          clear k3' k4
          generalize en.name.length = n4 at *
          generalize en.value.length = n5 at *
          generalize en.wraps.length = n9 at *
          have d0 : wr.cell? ⟨bb, ob + i2 * 9, none⟩ = some (.int .i64 en.kind) := k5 0 _ rfl
          have d1 : wr.cell? ⟨bb, ob + i2 * 9 + 1, none⟩ = some (.int .i64 en.writer) := k5 1 _ rfl
          have d2 : wr.cell? ⟨bb, ob + i2 * 9 + 2, none⟩ = some (.int .i64 en.seq) := k5 2 _ rfl
          have d3 : wr.cell? ⟨bb, ob + i2 * 9 + 3, none⟩ = some (.slice np n4 nc) := k5 3 _ rfl
          have d4 : wr.cell? ⟨bb, ob + i2 * 9 + 4, none⟩ = some (.slice vp n5 vc) := k5 4 _ rfl
          have d5 : wr.cell? ⟨bb, ob + i2 * 9 + 5, none⟩ = some (.int .i64 en.who) := k5 5 _ rfl
          have d6 : wr.cell? ⟨bb, ob + i2 * 9 + 6, none⟩ = some (.int .i64 en.rights) := k5 6 _ rfl
          have d7 : wr.cell? ⟨bb, ob + i2 * 9 + 7, none⟩ = some (.int .i64 en.epoch) := k5 7 _ rfl
          have d8 : wr.cell? ⟨bb, ob + i2 * 9 + 8, none⟩ = some (.slice wq n9 wc) := k5 8 _ rfl
          clear k5
          obtain ⟨wa, HWA⟩ : ∃ wa, Hid (wr.alloc (.cells #[.int .i64 en.kind, .int .i64 en.writer, .int .i64 en.seq, .slice np n4 nc, .slice vp n5 vc, .int .i64 en.who, .int .i64 en.rights, .int .i64 en.epoch, .slice wq n9 wc] 30) = wa) := ⟨_, rfl⟩
          have hxa : Below wr.heap.size wr wa := by rw [← HWA.out]; exact bel_alloc (Nat.le_refl _) _
          have GA : Hid ((Pl w wa p b L ∧ Pl w wa p' b' M) ∧ DkRow wa q5 L) := ⟨⟨GJ.out.1.1.step hxa, GJ.out.1.2.step hxa⟩, GJ.out.2.below hxa⟩
          have HCA : Hid (wa.heap[wr.heap.size]? = some (.cells #[.int .i64 en.kind, .int .i64 en.writer, .int .i64 en.seq, .slice np n4 nc, .slice vp n5 vc, .int .i64 en.who, .int .i64 en.rights, .int .i64 en.epoch, .slice wq n9 wc] 30 (0, 0))) := by rw [← HWA.out]; exact heap_alloc_new wr _
          clear hxa
          go_wp2_with fail
          rw [HWA.out]
          cases hs : small en with
          | false =>
            refine (small_eq (HEN.out wa (GA.out.1.1.bel)) hs).mono ?_
            rintro e w2' ⟨rfl, hx⟩
            have G2 : Hid (((Pl w w2' p b L ∧ Pl w w2' p' b' M) ∧ DkRow w2' q5 L) ∧ w2'.heap[wr.heap.size]? = some (.cells #[.int .i64 en.kind, .int .i64 en.writer, .int .i64 en.seq, .slice np n4 nc, .slice vp n5 vc, .int .i64 en.who, .int .i64 en.rights, .int .i64 en.epoch, .slice wq n9 wc] 30 (0, 0))) := ⟨⟨⟨GA.out.1.1.step hx, GA.out.1.2.step hx⟩, GA.out.2.below hx⟩, (hx.block _ (Array.getElem?_eq_some_iff.1 HCA.out).1).trans HCA.out⟩
            clear hx d0 d1 d2 d3 d4 d5 d6 d7 d8 HWA HCA GA hs
            obtain ⟨c0, c1', c2, c3, c4, c5, c6, c7, c8⟩ := cells9 G2.out.2
            go_wp2_with fail
            go_ret
            exact ⟨rfl, G2.out.1.1.1.bel⟩
          | true =>
            refine (small_eq (HEN.out wa (GA.out.1.1.bel)) hs).mono ?_
            rintro e w2' ⟨rfl, hx⟩
            have G2 : Hid (((Pl w w2' p b L ∧ Pl w w2' p' b' M) ∧ DkRow w2' q5 L) ∧ w2'.heap[wr.heap.size]? = some (.cells #[.int .i64 en.kind, .int .i64 en.writer, .int .i64 en.seq, .slice np n4 nc, .slice vp n5 vc, .int .i64 en.who, .int .i64 en.rights, .int .i64 en.epoch, .slice wq n9 wc] 30 (0, 0))) := ⟨⟨⟨GA.out.1.1.step hx, GA.out.1.2.step hx⟩, GA.out.2.below hx⟩, (hx.block _ (Array.getElem?_eq_some_iff.1 HCA.out).1).trans HCA.out⟩
            clear hx d0 d1 d2 d3 d4 d5 d6 d7 d8 HWA HCA GA hs
            obtain ⟨c0, c1', c2, c3, c4, c5, c6, c7, c8⟩ := cells9 G2.out.2
            go_wp2_with fail
            refine (Apply_any w2' p' b' M en _ G2.out.1.1.2.dc (HEN.out w2' G2.out.1.1.1.bel) (by have := HI2.out; omega)).mono ?_
            rintro e w3' ⟨rfl, hd3, ho3⟩
            have G3 : Hid ((Pl w w3' p b L ∧ Pl w w3' p' b' (after M en).1) ∧ DkRow w3' q5 L) := ⟨⟨G2.out.1.1.1.beside G2.out.1.1.2 ho3 HNE.out.1 HNE.out.2, G2.out.1.1.2.turn hd3 ho3⟩, G2.out.1.2.map ho3 G2.out.1.1.2.dc.isMap⟩
            have HJ3 : Hid ((after M en).1.length ≤ 20 + (i2 + 1)) := Nat.le_trans (after_len M en) (Nat.succ_le_succ HI2.out)
            clear hd3 ho3 c0 c1' c2 c3 c4 c5 c6 c7 c8
            generalize (after M en).1 = M2 at *
            generalize (after M en).2 = x at *
            go_wp2_with fail
            refine ⟨⟨i2 + 1, M2, by omega, by simp, G3, HJ3⟩, ?_⟩
            simp only [intOf]
            omega
        · obtain rfl : i2 = m := by omega
          have j1 : ¬ (i2 : Int) < (i2 : Int) := by omega
          have HMB : Hid (M.length ≤ 40) := (by have := HI2.out; omega : M.length ≤ 40)
          obtain ⟨mn, HMN⟩ : ∃ mn, Hid (M.length = mn) := ⟨_, rfl⟩
          have hmn : mn ≤ 40 := by have := HMB.out; have := HMN.out; omega
          have HMM : Hid (mn ≤ 1000000) := (by omega : mn ≤ 1000000)
          obtain ⟨WS, HWS⟩ : ∃ WS, WS = wr := ⟨_, rfl⟩
          subst HWS
          go_wp2_with fail
          refine (All_any WS p' b' M GJ.out.1.2.dc).mono ?_
          intro e w6 hx
          obtain ⟨q6, c6', xs, rfl, hal, hb6⟩ := hx.al GJ.out.1.2.dc.ok
          clear hx
          rw [HMN.out] at hal ⊢
          have G6 : Hid (Below WS.heap.size WS w6 ∧ Al WS.heap.size w6 q6 mn c6' xs) := ⟨hb6, hal⟩
          clear hb6 hal
          have hq0 : (0 : Int) ≤ (mn : Int) := by omega
          have hqb : (mn : Int) ≤ 40 := by omega
          go_wp2_with fail
          clear hlt j1 j0 hi2
          go_loopw [60] (fun i wr => ∃ (i3 : Nat), i3 ≤ mn ∧ i = .int .i64 i3 ∧ Hid (Below WS.heap.size WS wr ∧ Al WS.heap.size wr q6 mn c6' xs)) (fun i _ => mn - (intOf i).toNat)
          case atStart => exact ⟨0, by omega, rfl, G6.out⟩
          case round =>
            obtain ⟨i3, hi3, rfl, GL⟩ := hrel
            clear G6
            have j0 : (0 : Int) ≤ (i3 : Int) := by omega
            by_cases hlt : i3 < mn
            · have j1 : (i3 : Int) < (mn : Int) := by omega
              obtain ⟨g, x, y, hqg, hx1, hy1, rx, ry⟩ := GL.out.2.at hlt
              obtain ⟨nx, gx, cx, _, _, rfl, _⟩ := rx
              obtain ⟨ny, gy, cy, _, _, rfl, hny, _⟩ := ry
              have HRW : Hid (∀ w', Al WS.heap.size w' q6 mn c6' xs → Rw WS.heap.size w' (.slice (some ⟨gy, 0, none⟩) ny cy)) := fun w' hw => GL.out.2.rw_of hlt hqg hy1 hw
              subst hqg
              have hy0 : (0 : Int) ≤ (ny : Int) := by omega
              have hyb : (ny : Int) ≤ 1000000 := by omega
              have hx1' : wr.cell? ⟨g, 0 + i3 * 2, none⟩ = some (.slice (some ⟨gx, 0, none⟩) nx cx) := by rw [Nat.zero_add]; exact hx1
              have hy1' : wr.cell? ⟨g, 0 + i3 * 2 + 1, none⟩ = some (.slice (some ⟨gy, 0, none⟩) ny cy) := by rw [Nat.zero_add]; exact hy1
              obtain ⟨wa, HWA⟩ : ∃ wa, Hid (wr.alloc (.cells #[.slice (some ⟨gx, 0, none⟩) nx cx, .slice (some ⟨gy, 0, none⟩) ny cy] 55) = wa) := ⟨_, rfl⟩
              have hxa : Below wr.heap.size wr wa := by rw [← HWA.out]; exact bel_alloc (Nat.le_refl _) _
              have GB : Hid ((Below WS.heap.size WS wa ∧ Al WS.heap.size wa (some ⟨g, 0, none⟩) mn c6' xs) ∧ wa.heap[wr.heap.size]? = some (.cells #[.slice (some ⟨gx, 0, none⟩) nx cx, .slice (some ⟨gy, 0, none⟩) ny cy] 55 (0, 0))) := ⟨⟨GL.out.1.trans (bel_le hxa GL.out.1.size), GL.out.2.below hxa⟩, by rw [← HWA.out]; exact heap_alloc_new wr _⟩
              clear hxa
              go_wp2_with fail
              rw [HWA.out]
              clear HWA hx1 hy1 hx1' hy1' GL
              obtain ⟨bx, hbx⟩ : ∃ bx, bx = wr.heap.size := ⟨_, rfl⟩
              rw [← hbx] at GB ⊢
              clear hbx
              go_loopw [67] (fun i wr => ∃ (i4 : Nat), i4 ≤ ny ∧ i = .int .i64 i4 ∧ Hid ((Below WS.heap.size WS wr ∧ Al WS.heap.size wr (some ⟨g, 0, none⟩) mn c6' xs) ∧ wr.heap[bx]? = some (.cells #[.slice (some ⟨gx, 0, none⟩) nx cx, .slice (some ⟨gy, 0, none⟩) ny cy] 55 (0, 0)))) (fun i _ => ny - (intOf i).toNat)
              case atStart => exact ⟨0, by omega, rfl, GB.out⟩
              case round =>
                obtain ⟨i4, hi4, rfl, GC⟩ := hrel
                clear GB
                have t0 : (0 : Int) ≤ (i4 : Int) := by omega
                have b1 : wr.cell? ⟨bx, 1, none⟩ = some (.slice (some ⟨gy, 0, none⟩) ny cy) := by rw [cell_of_row _ _ _ _ _ _ GC.out.2]; rfl
                by_cases hlt4 : i4 < ny
                · have t1 : (i4 : Int) < (ny : Int) := by omega
                  obtain ⟨n', g', c', cs, fr, e1, _, hA, hg, h1, h2, h3⟩ := HRW.out wr GC.out.1.2
                  simp only [Value.slice.injEq, Option.some.injEq, Addr.mk.injEq, and_true] at e1
                  obtain ⟨rfl, rfl, rfl⟩ := e1
                  obtain ⟨z, hz⟩ := h3 i4 hlt4
                  have b2 : wr.cell? ⟨gy, i4, none⟩ = some (.int .u8 z) := by rw [cell_of_row _ _ _ _ _ _ hg]; exact hz
                  have b2' : wr.cell? ⟨gy, 0 + i4, none⟩ = some (.int .u8 z) := by rw [Nat.zero_add]; exact b2
                  have b3 : wr.frozen? ⟨gy, i4, none⟩ = false := frozen_byte hg h2 (by omega)
                  have HNX : Hid (∀ z', (Below WS.heap.size WS (wr.setCell ⟨gy, i4, none⟩ (.int .u8 z')) ∧ Al WS.heap.size (wr.setCell ⟨gy, i4, none⟩ (.int .u8 z')) (some ⟨g, 0, none⟩) mn c6' xs) ∧ (wr.setCell ⟨gy, i4, none⟩ (.int .u8 z')).heap[bx]? = some (.cells #[.slice (some ⟨gx, 0, none⟩) nx cx, .slice (some ⟨gy, 0, none⟩) ny cy] 55 (0, 0))) := fun z' => ⟨⟨GC.out.1.1.setCell (p := ⟨gy, i4, none⟩) hA _, GC.out.1.2.set hg i4 z'⟩, other_set hg (by decide) GC.out.2 i4 _⟩
                  clear hg h1 h2 h3 hz hA GC
                  go_wp2_with fail
                  refine ⟨⟨i4 + 1, by omega, by simp, HNX.out _⟩, ?_⟩
                  simp only [intOf]
                  omega
                · obtain rfl : i4 = ny := by omega
                  have t1 : ¬ (i4 : Int) < (i4 : Int) := by omega
                  go_wp2_with fail
                  refine ⟨⟨i3 + 1, by omega, by simp, GC.out.1⟩, ?_⟩
                  simp only [intOf]
                  omega
            · obtain rfl : i3 = mn := by omega
              have j1 : ¬ (i3 : Int) < (i3 : Int) := by omega
              have G7 : Hid ((Pl w wr p b L ∧ Pl w wr p' b' M) ∧ DkRow wr q5 L) := ⟨⟨GJ.out.1.1.under GL.out.1 GJ.out.1.1.bel.size GJ.out.1.1.dc.ltp GJ.out.1.1.dc.ltb, GJ.out.1.2.under GL.out.1 GJ.out.1.1.bel.size GJ.out.1.2.dc.ltp GJ.out.1.2.dc.ltb⟩, GJ.out.2.below GL.out.1⟩
              clear GJ GL
              go_wp2_with fail
              refine (All_any wr p b L G7.out.1.1.dc).mono ?_
              intro e w8 hx
              obtain ⟨q8, c8', rfl, hr8, hb8⟩ := hx.row
              clear hx
              have G8 : Hid (((Pl w w8 p b L ∧ Pl w w8 p' b' M) ∧ DkRow w8 q5 L) ∧ DkRow w8 q8 L) := ⟨⟨⟨G7.out.1.1.step hb8, G7.out.1.2.step hb8⟩, G7.out.2.below hb8⟩, hr8⟩
              clear hb8 hr8 G7
              rw [HLN.out]
              go_wp2_with fail
              refine (madeDocs_any w8 q8 ln c8' L G8.out.2 HLN.out HLM.out).mono ?_
              rintro e w9 ⟨q9, c9', rfl, hr9, hb9⟩
              have G9 : Hid (((Pl w w9 p b L ∧ Pl w w9 p' b' M) ∧ DkRow w9 q5 L) ∧ DkRow w9 q9 L) := ⟨⟨⟨G8.out.1.1.1.step hb9, G8.out.1.1.2.step hb9⟩, G8.out.1.2.below hb9⟩, hr9⟩
              clear hb9 hr9 G8
              go_wp2_with fail
              refine (same_two w9 q9 q5 ln ln c9' c5' L L G9.out.2 G9.out.1.2 HLN.out HLN.out HLM.out HLM.out (s := true) (decide_eq_true rfl)).mono ?_
              rintro e w10 ⟨rfl, hb10⟩
              have G10 : Hid ((Pl w w10 p b L ∧ Pl w w10 p' b' M) ∧ DkRow w10 q5 L) := ⟨⟨G9.out.1.1.1.step hb10, G9.out.1.1.2.step hb10⟩, G9.out.1.2.below hb10⟩
              clear hb10 G9
              obtain ⟨rs, HRS⟩ : ∃ rs, Hid (decide (L = M) = rs) := ⟨_, rfl⟩
              go_wp2_with fail
              refine (same_eq w10 p b p' b' L M G10.out.1.1.dc G10.out.1.2.dc HRS.out).mono ?_
              rintro e w11 ⟨rfl, hb11⟩
              have G11 : Hid ((Pl w w11 p b L ∧ Pl w w11 p' b' M) ∧ DkRow w11 q5 L) := ⟨⟨G10.out.1.1.step hb11, G10.out.1.2.step hb11⟩, G10.out.2.below hb11⟩
              clear hb11 G10
              go_wp2_with fail
              refine (All_any w11 p' b' M G11.out.1.2.dc).mono ?_
              intro e w12 hx
              obtain ⟨q12, c12', rfl, hr12, hb12⟩ := hx.row
              clear hx
              have G12 : Hid (((Pl w w12 p b L ∧ Pl w w12 p' b' M) ∧ DkRow w12 q5 L) ∧ DkRow w12 q12 M) := ⟨⟨⟨G11.out.1.1.step hb12, G11.out.1.2.step hb12⟩, G11.out.2.below hb12⟩, hr12⟩
              clear hb12 hr12 G11
              rw [HMN.out]
              go_wp2_with fail
              refine (madeDocs_any w12 q12 _ c12' M G12.out.2 HMN.out HMM.out).mono ?_
              rintro e w13 ⟨q13, c13', rfl, hr13, hb13⟩
              have G13 : Hid (((Pl w w13 p b L ∧ Pl w w13 p' b' M) ∧ DkRow w13 q5 L) ∧ DkRow w13 q13 M) := ⟨⟨⟨G12.out.1.1.1.step hb13, G12.out.1.1.2.step hb13⟩, G12.out.1.2.below hb13⟩, hr13⟩
              clear hb13 hr13 G12
              go_wp2_with fail
              refine (same_two w13 q5 q13 ln _ c5' c13' L M G13.out.1.2 G13.out.2 HLN.out HMN.out HLM.out HMM.out HRS.out).mono ?_
              rintro e w14 ⟨rfl, hb14⟩
              have G14 : Hid (Pl w w14 p b L ∧ Pl w w14 p' b' M) := ⟨G13.out.1.1.1.step hb14, G13.out.1.1.2.step hb14⟩
              clear hb14 G13
              have hrs : (rs == rs) = true := by simp
              go_wp2_with fail
              refine (Clone_any w14 p' b' M G14.out.2.dc).mono ?_
              rintro e w15 ⟨p2, b2, rfl, hd15, _, _, hb15⟩
              have G15 : Hid (Pl w w15 p' b' M ∧ DcIs w15 p2 b2 M) := ⟨G14.out.2.step hb15, hd15⟩
              clear hb15 hd15 G14
              go_wp2_with fail
              refine (same_eq w15 p' b' p2 b2 M M G15.out.1.dc G15.out.2 (s := true) (decide_eq_true rfl)).mono ?_
              rintro e w16 ⟨rfl, hb16⟩
              have G16 : Hid (Pl w w16 p' b' M) := G15.out.1.step hb16
              clear hb16 G15
              go_wp2_with fail
              go_ret
              exact ⟨rfl, G16.out.bel⟩
theorem clones_any (w : World) (a1 : Option Addr) (n c1 : Nat) (a2 : Option Addr) (m c2 : Nat) (h1 : n ≤ 9223372036854775807 ∧ ∃ es : List En, es.length = n ∧ EnRow w a1 es) (h2 : m ≤ 9223372036854775807 ∧ ∃ es : List En, es.length = m ∧ EnRow w a2 es) :
    Calls Try.prog 5 #[.slice a1 n c1, .slice a2 m c2] w fun e w' => e = .returned (.bool true) ∧ Below w.heap.size w w' := by
  obtain ⟨_, es, hl, hr⟩ := h1
  obtain ⟨_, fs, hl2, hr2⟩ := h2
  by_cases hn : n ≤ 20
  · by_cases hm : m ≤ 20
    · exact cl_main w a1 n c1 a2 m c2 es hl hr fs hl2 hr2 hn hm
    · exact cl_more w a1 n c1 a2 m c2 hn (by omega)
  · exact cl_many w a1 n c1 a2 m c2 (by omega)
end Go.Proofs.Ytigfiopmochliaa.D11
