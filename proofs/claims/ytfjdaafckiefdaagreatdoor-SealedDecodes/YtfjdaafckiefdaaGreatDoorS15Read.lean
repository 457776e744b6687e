/- The document's Read of records. -/
import Derived.Test.YtfjdaafckiefdaaGreatDoorS15DecA
import Derived.Test.YtfjdaafckiefdaaGreatDoorS15Rf
namespace Go.Proofs.YtfjdaafckiefdaaGreatDoor.S15
open Go.RowKit C8 E9
open S7 (Fr Kx By)
def RVl (n1 n2 n3 n4 : Int) (v : Value) : Array Value := #[.int .i64 n1, .int .i64 n2, .int .i64 n3, .int .i64 n4, v]
/-- The document's Read: what it tells at its first block, its reader at q, its record at b. -/
structure R5 (w W : World) (q b : Nat) (sv : Value) (l : List Nat) (s : Sta) (n1 n2 n3 n4 : Int) (v : Value) : Prop where
  rd : RfT W q sv l s
  at2 : W.heap[b]? = some (.cells #[.int .i64 n1, .int .i64 n2, .int .i64 n3, .int .i64 n4, v] 26 (0, 0))
  at0 : W.heap[w.heap.size]? = some (.cells z5 26 (0, 0))
  bel : Below w.heap.size w W
  own : l ≠ [] → ∀ k, sv.ownBlock = some k → k < w.heap.size
  lo : w.heap.size < q
  hi : q < b
section
variable {w W W' : World} {q b : Nat} {sv v : Value} {l : List Nat} {s s' : Sta} {n1 n2 n3 n4 : Int}
theorem R5.lt (h : R5 w W q b sv l s n1 n2 n3 n4 v) : b < W.heap.size := (Array.getElem?_eq_some_iff.1 h.at2).1
theorem R5.read (h : R5 w W q b sv l s n1 n2 n3 n4 v) (hr : RfT W' q sv l s') (ho : Only [q] W W') : R5 w W' q b sv l s' n1 n2 n3 n4 v :=
  have hlt := h.lt
  have h1 := h.lo
  have h2 := h.hi
  ⟨hr, (ho.block b hlt (by simp; omega)).trans h.at2, (ho.block _ (by omega) (by simp; omega)).trans h.at0, h.bel.trans (ho.below h.bel.size (by simp; omega)), h.own, h1, h2⟩
theorem RfT.apart {bs : List Nat} (h : RfT W q sv l s) (ho : Only bs W W') (hq : q ∉ bs) (hs : l ≠ [] → Off sv bs) : RfT W' q sv l s := by
  obtain ⟨a, h1, h2, h3, h4, h5, h6⟩ := h
  exact ⟨a, h1.only ho hq, srcO h2 ho hs, h3, h4, h5, h6⟩
theorem R5.set (h : R5 w W q b sv l s n1 n2 n3 n4 v) (i : Nat) (x : Value) {m1 m2 m3 m4 : Int} {u : Value} (he : (#[.int .i64 n1, .int .i64 n2, .int .i64 n3, .int .i64 n4, v] : Array Value).setIfInBounds i x = #[.int .i64 m1, .int .i64 m2, .int .i64 m3, .int .i64 m4, u]) :
    R5 w (W.setCell ⟨b, i, none⟩ x) q b sv l s m1 m2 m3 m4 u :=
  have hlt := h.lt
  have h1 := h.lo
  have h2 := h.hi
  have ho : Only [b] W (W.setCell ⟨b, i, none⟩ x) := Only.setCell _ _ _ (by simp)
  ⟨RfT.apart h.rd ho (by simp; omega) (fun hne k hk => by have := h.own hne k hk; simp; omega), by rw [heap_setCell_same W b i _ 26 x h.at2, he], (ho.block _ (by omega) (by simp; omega)).trans h.at0, h.bel.trans (ho.below h.bel.size (by simp; omega)), h.own, h1, h2⟩
theorem R5.up (h : R5 w W q b sv l s n1 n2 n3 n4 v) (hb : Below W.heap.size W W') : R5 w W' q b sv l s n1 n2 n3 n4 v :=
  have hlt := h.lt
  have h1 := h.lo
  have h2 := h.hi
  ⟨RfT.apart (bs := []) h.rd (Only.of_below hb _) (by simp) (fun _ k _ => by simp), (hb.block _ hlt).trans h.at2, (hb.block _ (by omega)).trans h.at0, h.bel.trans (bel_le hb h.bel.size), h.own, h1, h2⟩
theorem rrec_cells {w : World} {b : Nat} {a1 a2 a3 a4 : Int} {v : Value} (h : w.heap[b]? = some (.cells #[.int .i64 a1, .int .i64 a2, .int .i64 a3, .int .i64 a4, v] 26 (0, 0))) :
    w.cell? ⟨b, 0, none⟩ = some (.int .i64 a1) ∧ w.cell? ⟨b, 1, none⟩ = some (.int .i64 a2) ∧ w.cell? ⟨b, 2, none⟩ = some (.int .i64 a3) ∧ w.cell? ⟨b, 3, none⟩ = some (.int .i64 a4) ∧ w.cell? ⟨b, 4, none⟩ = some v ∧ ∀ i, w.frozen? ⟨b, i, none⟩ = false := by
  refine ⟨?_, ?_, ?_, ?_, ?_, fun i => frozen_of_row _ _ _ _ _ h⟩ <;> (rw [cell_of_row _ _ _ _ _ _ h]; rfl)
end
/-- What the document's Read tells. -/
def RSays (l : List Nat) (w : World) (e : Ending) (w' : World) : Prop := Below w.heap.size w w' ∧ match rdec true l with
  | some r => ∃ q c, e = .returned (.tuple #[.agg (RecV r q c), .bool true]) ∧ Src w' (.slice q r.box.length c) r.box
  | none => e = .returned (.tuple #[.agg z5, .bool false])
theorem R5.start (w : World) (sv : Value) (l : List Nat) (hs : Src w sv l) (hl : l.length ≤ 100000) (ho : l ≠ [] → ∀ k, sv.ownBlock = some k → k < w.heap.size) :
    R5 w (((w.alloc (.cells z5 26)).alloc (.cells #[sv, .int .i64 0, .bool false] 86)).alloc (.cells z5 26)) (w.heap.size + 1) (w.heap.size + 1 + 1) sv l (l, false) 0 0 0 0 (.slice none 0 0) := by
  have h1 := S7.below_alloc' w (.cells z5 26)
  have h2 := S7.below_alloc' (w.alloc (.cells z5 26)) (.cells #[sv, .int .i64 0, .bool false] 86)
  have h3 := S7.below_alloc' ((w.alloc (.cells z5 26)).alloc (.cells #[sv, .int .i64 0, .bool false] 86)) (.cells z5 26)
  have z1 : (w.alloc (.cells z5 26)).heap.size = w.heap.size + 1 := by simp
  have z2 : ((w.alloc (.cells z5 26)).alloc (.cells #[sv, .int .i64 0, .bool false] 86)).heap.size = w.heap.size + 2 := by simp
  have hb := h1.trans ((h2.mono h1.size).trans (h3.mono (by omega)))
  have r1 := heap_alloc_new w (.cells z5 26)
  have r2 := heap_alloc_new (w.alloc (.cells z5 26)) (.cells #[sv, .int .i64 0, .bool false] 86)
  have r3 := heap_alloc_new ((w.alloc (.cells z5 26)).alloc (.cells #[sv, .int .i64 0, .bool false] 86)) (.cells z5 26)
  rw [z1] at r2
  rw [z2] at r3
  exact ⟨⟨0, (h3.block _ (by omega)).trans r2, hs.below hb, (fun hne k hk => by have := ho hne k hk; simp; omega), by omega, hl, by simp⟩, r3, (h3.block _ (by omega)).trans ((h2.block _ (by omega)).trans r1), hb, ho, by omega, by omega⟩
set_option maxHeartbeats 4000000 in
set_option maxRecDepth 10000 in
theorem Read_any (sv : Value) (l : List Nat) (w : World) (hs : Src w sv l) (hl : l.length ≤ 100000) (ho : l ≠ [] → ∀ k, sv.ownBlock = some k → k < w.heap.size) : Calls Tryz.prog 16 #[sv] w (RSays l w) := by
  obtain ⟨n1, s1, h1⟩ : ∃ k s, rN 1 1099511627776 (l, false) = (k, s) := ⟨_, _, rfl⟩
  obtain ⟨n2, s2, h2⟩ : ∃ k s, rN 0 16 s1 = (k, s) := ⟨_, _, rfl⟩
  obtain ⟨n3, s3, h3⟩ : ∃ k s, rN 1 16 s2 = (k, s) := ⟨_, _, rfl⟩
  obtain ⟨n4, s4, h4⟩ : ∃ k s, rN 1 1099511627776 s3 = (k, s) := ⟨_, _, rfl⟩
  obtain ⟨t, s5, h5⟩ : ∃ k s, rT 80 2064 s4 = (k, s) := ⟨_, _, rfl⟩
  have H1 := hid h1
  have H2 := hid h2
  have H3 := hid h3
  have H4 := hid h4
  have H5 := hid h5
  have HE : Hid (rdE true (l, false) = (⟨n1, n2, n3, n4, t⟩, s5)) := by
    show _ = _
    unfold rdE
    simp [l1, h16, h1, h2, h3, h4, h5]
  clear h1 h2 h3 h4 h5
  obtain ⟨sq, sc, rfl, -⟩ := hs.slice
  have D0 := hid (R5.start w _ l hs hl ho)
  generalize l.length = ln at *
  clear hs hl ho
  unfold z5 at D0
  obtain ⟨S, HSS⟩ : ∃ S, Hid (RSays l w = S) := ⟨_, rfl⟩
  rw [HSS.out]
  go_enter Tryz.func16, Tryz.ntmps16
  go_wp2_with fail
  generalize ((w.alloc (.cells #[.int .i64 0, .int .i64 0, .int .i64 0, .int .i64 0, .slice none 0 0] 26)).alloc (.cells #[.slice sq ln sc, .int .i64 0, .bool false] 86)).alloc (.cells #[.int .i64 0, .int .i64 0, .int .i64 0, .int .i64 0, .slice none 0 0] 26) = W0 at *
  generalize w.heap.size + 1 + 1 = b at *
  generalize w.heap.size + 1 = q at *
  refine (tnum_any W0 q _ l _ s1 1 1099511627776 n1 D0.out.rd H1.out).mono ?_
  rintro e w1 ⟨rfl, k1, k2⟩
  have D1 := hid (D0.out.read k1 k2)
  clear k1 k2 D0 H1
  obtain ⟨a0, a1, a2, a3, a4, af⟩ := rrec_cells D1.out.at2
  go_wp2_with fail
  have D2 := hid (D1.out.set 0 (.int .i64 n1) rfl)
  clear D1 a0 a1 a2 a3 a4 af
  generalize w1.setCell ⟨b, 0, none⟩ (.int .i64 n1) = W1 at *
  refine (tnum_any W1 q _ l _ s2 0 16 n2 D2.out.rd H2.out).mono ?_
  rintro e w2 ⟨rfl, k1, k2⟩
  have D3 := hid (D2.out.read k1 k2)
  clear k1 k2 D2 H2
  obtain ⟨a0, a1, a2, a3, a4, af⟩ := rrec_cells D3.out.at2
  go_wp2_with fail
  have D4 := hid (D3.out.set 1 (.int .i64 n2) rfl)
  clear D3 a0 a1 a2 a3 a4 af
  generalize w2.setCell ⟨b, 1, none⟩ (.int .i64 n2) = W2 at *
  refine (tnum_any W2 q _ l _ s3 1 16 n3 D4.out.rd H3.out).mono ?_
  rintro e w3 ⟨rfl, k1, k2⟩
  have D5 := hid (D4.out.read k1 k2)
  clear k1 k2 D4 H3
  obtain ⟨a0, a1, a2, a3, a4, af⟩ := rrec_cells D5.out.at2
  go_wp2_with fail
  have D6 := hid (D5.out.set 2 (.int .i64 n3) rfl)
  clear D5 a0 a1 a2 a3 a4 af
  generalize w3.setCell ⟨b, 2, none⟩ (.int .i64 n3) = W3 at *
  refine (tnum_any W3 q _ l _ s4 1 1099511627776 n4 D6.out.rd H4.out).mono ?_
  rintro e w4 ⟨rfl, k1, k2⟩
  have D7 := hid (D6.out.read k1 k2)
  clear k1 k2 D6 H4
  obtain ⟨a0, a1, a2, a3, a4, af⟩ := rrec_cells D7.out.at2
  go_wp2_with fail
  have D8 := hid (D7.out.set 3 (.int .i64 n4) rfl)
  clear D7 a0 a1 a2 a3 a4 af
  generalize w4.setCell ⟨b, 3, none⟩ (.int .i64 n4) = W4 at *
  refine (ttext_any W4 q _ l _ s5 80 2064 t D8.out.rd H5.out).mono ?_
  rintro e w5 ⟨v, rfl, k0, kv, k1, k2⟩
  have D9 := hid (D8.out.read k1 k2)
  obtain ⟨vq, vc, rfl, -⟩ := k0.slice
  have DV : Hid (Src w5 (.slice vq t.length vc) t ∧ ∀ k, (Value.slice vq t.length vc).ownBlock = some k → k < w.heap.size) := ⟨k0, fun k hk => by
    rcases kv with kv | kv
    · rw [kv.1] at hk; exact D9.out.own kv.2 k hk
    · rw [kv] at hk; cases hk⟩
  clear k0 kv k1 k2 D8 H5
  obtain ⟨tn, HTN⟩ : ∃ tn, Hid (t.length = tn) := ⟨_, rfl⟩
  rw [HTN.out] at DV
  rw [HTN.out]
  obtain ⟨a0, a1, a2, a3, a4, af⟩ := rrec_cells D9.out.at2
  go_wp2_with fail
  have DA := hid (D9.out.set 4 (.slice vq tn vc) rfl)
  have DW : Hid (Src (w5.setCell ⟨b, 4, none⟩ (.slice vq tn vc)) (.slice vq tn vc) t ∧ ∀ k, (Value.slice vq tn vc).ownBlock = some k → k < w.heap.size) :=
    ⟨DV.out.1.only (bs := [b]) (Only.setCell _ _ _ (by simp)) (fun k hk => by have := DV.out.2 k hk; have := D9.out.lo; have := D9.out.hi; simp; omega), DV.out.2⟩
  clear D9 DV a0 a1 a2 a3 a4 af
  generalize w5.setCell ⟨b, 4, none⟩ (.slice vq tn vc) = W5 at *
  obtain ⟨en, HEN⟩ : ∃ en, Hid ((!s5.2 && decide (s5.1 = [])) = en) := ⟨_, rfl⟩
  refine (tend_any W5 q _ l s5 DA.out.rd).mono ?_
  rintro e w6 ⟨rfl, k, rfl⟩
  rw [HEN.out]
  have DB := hid (DA.out.up (S7.below_drewN k W5 _))
  have DX : Hid (Src (W5.drewN k) (.slice vq tn vc) t) := DW.out.1.below (S7.below_drewN k W5 _)
  have DY : Hid (∀ k, (Value.slice vq tn vc).ownBlock = some k → k < w.heap.size) := DW.out.2
  clear DA DW
  generalize W5.drewN k = W6 at *
  obtain ⟨a0, a1, a2, a3, a4, af⟩ := rrec_cells DB.out.at2
  obtain ⟨y0, y1, y2, y3, y4, yf⟩ := rrec_cells DB.out.at0
  have HQ := hid (rdec_true l)
  rw [HE.out] at HQ
  simp only at HQ
  rw [HEN.out] at HQ
  clear HE HEN
  cases en with
  | false =>
    go_wp2_with fail
    refine bodyPost_ret (results_row2 rfl _ _ w.heap.size 26 _ (0, 0) _ rfl (row5 DB.out.at0 _ _ _ _ _) Tryz.underlying26 rfl (by kernel_rfl)) rfl ?_
    rw [← HSS.out]
    refine ⟨bel5 DB.out.bel (Nat.le_refl _) _ _ _ _ _, ?_⟩
    rw [HQ.out]
    rfl
  | true =>
    go_wp2_with fail
    refine bodyPost_ret (results_row2 rfl _ _ w.heap.size 26 _ (0, 0) _ rfl (row5 DB.out.at0 _ _ _ _ _) Tryz.underlying26 rfl (by kernel_rfl)) rfl ?_
    rw [← HSS.out]
    refine ⟨bel5 DB.out.bel (Nat.le_refl _) _ _ _ _ _, ?_⟩
    rw [HQ.out]
    refine ⟨vq, vc, ?_, ?_⟩
    · show _ = Ending.returned (.tuple #[.agg #[.int .i64 n1, .int .i64 n2, .int .i64 n3, .int .i64 n4, .slice vq t.length vc], .bool true])
      rw [HTN.out]
      rfl
    · show Src _ (.slice vq t.length vc) t
      rw [HTN.out]
      exact DX.out.only (only5c W6 w.heap.size _ _ _ _ _) (fun k hk => by have := DY.out k hk; simp; omega)
end Go.Proofs.YtfjdaafckiefdaaGreatDoor.S15
