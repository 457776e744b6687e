/- Decode of records. -/
import Derived.Test.YtfjdaafckiefdabGreatDoorS15Dec
namespace Go.Proofs.YtfjdaafckiefdabGreatDoor.S15
open Go.RowKit C8 E9
open S7 (Fr Kx By)
set_option maxHeartbeats 8000000 in
set_option maxRecDepth 10000 in
theorem Decode_any (sv : Value) (l : List Nat) (w : World) (hs : Src w sv l) (hl : l.length ≤ 900000) : Calls Tryz.prog 6 #[sv] w (DSays l w) := by
  obtain ⟨n1, s1, h1⟩ : ∃ k s, rN 0 1099511627776 (l, false) = (k, s) := ⟨_, _, rfl⟩
  obtain ⟨n2, s2, h2⟩ : ∃ k s, rN 0 1099511627776 s1 = (k, s) := ⟨_, _, rfl⟩
  obtain ⟨n3, s3, h3⟩ : ∃ k s, rN 0 1099511627776 s2 = (k, s) := ⟨_, _, rfl⟩
  obtain ⟨n4, s4, h4⟩ : ∃ k s, rN 0 1099511627776 s3 = (k, s) := ⟨_, _, rfl⟩
  obtain ⟨t, s5, h5⟩ : ∃ k s, rT 80 2064 s4 = (k, s) := ⟨_, _, rfl⟩
  have H1 := hid h1
  have H2 := hid h2
  have H3 := hid h3
  have H4 := hid h4
  have H5 := hid h5
  have HE : Hid (rdE false (l, false) = (⟨n1, n2, n3, n4, t⟩, s5)) := by
    show _ = _
    unfold rdE
    simp [l1, h16, h1, h2, h3, h4, h5]
  clear h1 h2 h3 h4 h5
  have HRD : ∀ W, Hid (Below w.heap.size w W) → Calls Tryz.prog 14 #[sv] W fun e w' => ∃ p, e = .returned (.pointer (some ⟨p, 0, none⟩)) ∧ Hid (RdS w' p W.heap.size w'.heap.size (l, false)) ∧ Hid (W.heap.size ≤ p ∧ p < w'.heap.size) ∧ Hid (Below W.heap.size W w') := fun W hW => (read_any sv l W (hs.below hW.out) hl).mono (by
    rintro e w' ⟨p, rfl, h1, h2, h3, h4⟩
    exact ⟨p, rfl, h1, ⟨h2, h3⟩, h4⟩)
  obtain ⟨sq, sc, rfl, -⟩ := hs.slice
  generalize l.length = ln at *
  clear hs hl
  have HB0 : Hid (∀ o, Below w.heap.size w (w.alloc o)) := fun o => S7.below_alloc' w o
  obtain ⟨S, HSS⟩ : ∃ S, Hid (DSays l w = S) := ⟨_, rfl⟩
  rw [HSS.out]
  go_enter Tryz.func6, Tryz.ntmps6
  go_wp2_with (first
    | (go_at_call 14; refine (HRD _ (HB0.out _)).mono ?_; rintro e w1 ⟨p, rfl, R1, P1, B1⟩; clear HRD))
  go_upto_region 3 with fail
  have D1 : Hid (D5 w (w1.alloc (.cells #[.pointer (some ⟨p, 0, none⟩)] 43)) p w1.heap.size (l, false)) := D5.start B1.out R1.out P1.out.1 P1.out.2
  clear R1 P1 B1 HB0
  generalize w1.alloc (.cells #[.pointer (some ⟨p, 0, none⟩)] 43) = W1 at *
  generalize w1.heap.size = BB at *
  refine wp_region_sa (rgD (.func (.func 15) #[] #[.pointer (some ⟨BB, 0, none⟩)]) p (w.heap.size + 1) BB n1 n2 n3 n4 t) (Gd p BB) (As [1, 3, 5, 7, 9] (fun k W => D5 w W p BB (match k with | 0 => (l, false) | 1 => s1 | 2 => s2 | 3 => s3 | 4 => s4 | _ => s5)) (BB + 1) 11 12 6 24 z5 (fun C W => ∃ tp tc, C = #[.int .i64 n1, .int .i64 n2, .int .i64 n3, .int .i64 n4, .slice tp t.length tc] ∧ Tx W p (w.heap.size + 1) BB (.slice tp t.length tc) t)) (by kernel_rfl) (Gd.below (S7.below_drewN 1 _ _)) Gd.trans (rgD_kept _ _ _ _ _ _ _ _ _) (by kernel_rfl) (As.start (D1.out.up (S7.below_drewN 1 _ _)) D1.out.lt) ?_ ?_
  · intro i o a' w' f hi inv hS hfi hfw hpre
    have hlt : i < 13 := (Array.getElem?_eq_some_iff.1 hi).1
    obtain rfl|rfl|rfl|rfl|rfl|rfl|rfl|rfl|rfl|rfl|rfl|rfl|rfl : i = 0 ∨ i = 1 ∨ i = 2 ∨ i = 3 ∨ i = 4 ∨ i = 5 ∨ i = 6 ∨ i = 7 ∨ i = 8 ∨ i = 9 ∨ i = 10 ∨ i = 11 ∨ i = 12 := by omega
    · obtain rfl := Option.some.inj hi
      exact as_value _ rfl rfl rfl (Gd.refl _ _ _) (by decide) (by decide) (by decide) (by decide) hS (by show a'.tmps.getD 5 undef = _; rw [inv.old 5 (notDst_spec (by kernel_rfl))]; rfl)
    · obtain rfl := Option.some.inj hi
      have h0 : a'.tmps.getD 10 undef = _ := pre_of hpre 0 10 (by kernel_rfl) (by kernel_rfl)
      refine as_call (k := 0) 15 #[.pointer (some ⟨BB, 0, none⟩)] rfl rfl (clo_run 10 BB rfl h0) rfl (by decide) hfi (fun c h _ => absurd rfl h) (by decide) (by decide) (by decide) hS (fun hR => ?_)
      exact (clo_num w' BB p (w.heap.size + 1) BB _ _ n1 hR.c4 hR.rd H1).mono (by rintro e u ⟨rfl, h1, h2⟩; exact ⟨_, rfl, Gd.only h2.out (.inl rfl), hR.read h1.out h2.out, h2.out.size, (fun b hb hz => (h2.out.block b (Array.getElem?_eq_some_iff.1 hz).1 (by have := hR.hi; simp; omega)).trans hz), rfl⟩)
    · obtain rfl := Option.some.inj hi
      exact as_value _ rfl rfl rfl (Gd.refl _ _ _) (by decide) (by decide) (by decide) (by decide) hS (by show a'.tmps.getD 5 undef = _; rw [inv.old 5 (notDst_spec (by kernel_rfl))]; rfl)
    · obtain rfl := Option.some.inj hi
      have h0 : a'.tmps.getD 12 undef = _ := pre_of hpre 2 12 (by kernel_rfl) (by kernel_rfl)
      refine as_call (k := 1) 15 #[.pointer (some ⟨BB, 0, none⟩)] rfl rfl (clo_run 12 BB rfl h0) rfl (by decide) hfi (fun c _ hc => by cases hc; exact been_of hfw 1 (by kernel_rfl)) (by decide) (by decide) (by decide) hS (fun hR => ?_)
      exact (clo_num w' BB p (w.heap.size + 1) BB _ _ n2 hR.c4 hR.rd H2).mono (by rintro e u ⟨rfl, h1, h2⟩; exact ⟨_, rfl, Gd.only h2.out (.inl rfl), hR.read h1.out h2.out, h2.out.size, (fun b hb hz => (h2.out.block b (Array.getElem?_eq_some_iff.1 hz).1 (by have := hR.hi; simp; omega)).trans hz), rfl⟩)
    · obtain rfl := Option.some.inj hi
      exact as_value _ rfl rfl rfl (Gd.refl _ _ _) (by decide) (by decide) (by decide) (by decide) hS (by show a'.tmps.getD 5 undef = _; rw [inv.old 5 (notDst_spec (by kernel_rfl))]; rfl)
    · obtain rfl := Option.some.inj hi
      have h0 : a'.tmps.getD 14 undef = _ := pre_of hpre 4 14 (by kernel_rfl) (by kernel_rfl)
      refine as_call (k := 2) 15 #[.pointer (some ⟨BB, 0, none⟩)] rfl rfl (clo_run 14 BB rfl h0) rfl (by decide) hfi (fun c _ hc => by cases hc; exact been_of hfw 3 (by kernel_rfl)) (by decide) (by decide) (by decide) hS (fun hR => ?_)
      exact (clo_num w' BB p (w.heap.size + 1) BB _ _ n3 hR.c4 hR.rd H3).mono (by rintro e u ⟨rfl, h1, h2⟩; exact ⟨_, rfl, Gd.only h2.out (.inl rfl), hR.read h1.out h2.out, h2.out.size, (fun b hb hz => (h2.out.block b (Array.getElem?_eq_some_iff.1 hz).1 (by have := hR.hi; simp; omega)).trans hz), rfl⟩)
    · obtain rfl := Option.some.inj hi
      exact as_value _ rfl rfl rfl (Gd.refl _ _ _) (by decide) (by decide) (by decide) (by decide) hS (by show a'.tmps.getD 5 undef = _; rw [inv.old 5 (notDst_spec (by kernel_rfl))]; rfl)
    · obtain rfl := Option.some.inj hi
      have h0 : a'.tmps.getD 16 undef = _ := pre_of hpre 6 16 (by kernel_rfl) (by kernel_rfl)
      refine as_call (k := 3) 15 #[.pointer (some ⟨BB, 0, none⟩)] rfl rfl (clo_run 16 BB rfl h0) rfl (by decide) hfi (fun c _ hc => by cases hc; exact been_of hfw 5 (by kernel_rfl)) (by decide) (by decide) (by decide) hS (fun hR => ?_)
      exact (clo_num w' BB p (w.heap.size + 1) BB _ _ n4 hR.c4 hR.rd H4).mono (by rintro e u ⟨rfl, h1, h2⟩; exact ⟨_, rfl, Gd.only h2.out (.inl rfl), hR.read h1.out h2.out, h2.out.size, (fun b hb hz => (h2.out.block b (Array.getElem?_eq_some_iff.1 hz).1 (by have := hR.hi; simp; omega)).trans hz), rfl⟩)
    · obtain rfl := Option.some.inj hi
      have h0 : a'.tmps.getD 4 undef = (.pointer (some ⟨BB, 0, none⟩)) := by rw [inv.old 4 (notDst_spec (by kernel_rfl))]; rfl
      obtain ⟨kk, _, _, hRk⟩ := hS.seq
      exact as_value _ rfl rfl (load_run 43 4 BB (0) _ rfl h0 (ldRD hRk.c4)) (Gd.refl _ _ _) (by decide) (by decide) (by decide) (by decide) hS rfl
    · obtain rfl := Option.some.inj hi
      have h0 : a'.tmps.getD 18 undef = _ := pre_of hpre 8 18 (by kernel_rfl) (by kernel_rfl)
      refine as_call (k := 4) 17 #[a'.tmps.getD 18 undef, .int .i64 80, .int .i64 2064] rfl rfl (by kernel_rfl) rfl (by decide) hfi (fun c _ hc => by cases hc; exact been_of hfw 7 (by kernel_rfl)) (by decide) (by decide) (by decide) hS (fun hR => ?_)
      rw [h0]
      exact (text_any w' p (w.heap.size + 1) BB _ _ 80 2064 t hR.rd H5.out).mono (by rintro e u ⟨tp, tc, rfl, h1, h2, h3⟩; exact ⟨_, rfl, Gd.only h3 (.inl rfl), hR.read h2 h3, h3.size, (fun b hb hz => (h3.block b (Array.getElem?_eq_some_iff.1 hz).1 (by have := hR.hi; simp; omega)).trans hz), tp, tc, rfl, h1⟩)
    · obtain rfl := Option.some.inj hi
      have h0 : a'.tmps.getD 11 undef = _ := pre_of hpre 1 11 (by kernel_rfl) (by kernel_rfl)
      have h1 : a'.tmps.getD 13 undef = _ := pre_of hpre 3 13 (by kernel_rfl) (by kernel_rfl)
      have h2 : a'.tmps.getD 15 undef = _ := pre_of hpre 5 15 (by kernel_rfl) (by kernel_rfl)
      have h3 : a'.tmps.getD 17 undef = _ := pre_of hpre 7 17 (by kernel_rfl) (by kernel_rfl)
      obtain ⟨tp, tc, h4, h5⟩ := pre_of hpre 9 19 (by kernel_rfl) (by kernel_rfl)
      exact as_value _ rfl rfl (bld_run 11 13 15 17 19 _ _ _ _ _ _ _ rfl h0 h1 h2 h3 h4) (Gd.refl _ _ _) (by decide) (by decide) (by decide) (by decide) hS ⟨tp, tc, rfl, by rw [h4] at h5; exact h5⟩
    · obtain rfl := Option.some.inj hi
      exact as_alloc rfl rfl (alloc_run rfl) (Gd.below (S7.below_alloc' w' _)) (by decide) rfl (by decide) hfi rfl (by rw [inv.size]; exact (by decide : 6 < 31)) hS (fun k hR => hR.up ((S7.below_alloc' w' _).mono (by have := hR.lt; omega))) ⟨_, rfl⟩
    · obtain rfl := Option.some.inj hi
      obtain ⟨tp, tc, h0, h5⟩ := pre_of hpre 10 20 (by kernel_rfl) (by kernel_rfl)
      refine as_store rfl rfl (by decide) rfl hfi (been_of hfw 11 (by kernel_rfl)) (fun c hc => by simp only [List.mem_cons, List.not_mem_nil, or_false] at hc; rcases hc with rfl | rfl | rfl | rfl | rfl <;> exact been_of hfw _ (by kernel_rfl)) rfl hS (fun b k1 k2 k3 k4 => ?_)
      have ho5 := only5c w' b (.int .i64 n1) (.int .i64 n2) (.int .i64 n3) (.int .i64 n4) (.slice tp t.length tc)
      exact ⟨_, _, st5_run 6 20 b _ _ _ _ _ n1 n2 n3 n4 tp t.length tc rfl k1 h0 k4, Gd.only ho5 (.inr (by omega)), by simp [World.setCell], row5 k4 _ _ _ _ _, ⟨tp, tc, rfl, Tx.gd h5 (Gd.only ho5 (.inr (by omega)))⟩, (fun k hR => hR.up (ho5.below (by have := hR.lt; omega) (by simp; omega))), trivial⟩
  intro a' w6 f inv hS hall hd
  obtain ⟨hD6, b6, C6, hb0, hb1, hb2, hb3, tp, tc, rfl, hT6⟩ := hS.done (hall 11 (by decide)) (hall 12 (by decide)) (fun c hc => hall c (by simp only [List.mem_cons, List.not_mem_nil, or_false] at hc; show c < 13; omega))
  have hdf : a'.defers = [] := inv.defers
  have hsz : a'.tmps.size = 31 := inv.size
  have e := frameD hsz (fun t ht => inv.old t (dstsIn_spec (ts := [6, 10, 11, 12, 13, 14, 15, 16, 17, 18, 19, 20]) (by kernel_rfl) t ht))
  clear inv hd hsz hall hS
  obtain ⟨tmps, defers⟩ := a'
  obtain rfl : defers = [] := hdf
  replace e : tmps = _ := e
  replace hb0 : tmps.getD 6 undef = .pointer (some ⟨b6, 0, none⟩) := hb0
  generalize tmps.getD 6 undef = x6 at *
  generalize tmps.getD 10 undef = x10 at *
  generalize tmps.getD 11 undef = x11 at *
  generalize tmps.getD 12 undef = x12 at *
  generalize tmps.getD 13 undef = x13 at *
  generalize tmps.getD 14 undef = x14 at *
  generalize tmps.getD 15 undef = x15 at *
  generalize tmps.getD 16 undef = x16 at *
  generalize tmps.getD 17 undef = x17 at *
  generalize tmps.getD 18 undef = x18 at *
  generalize tmps.getD 19 undef = x19 at *
  generalize tmps.getD 20 undef = x20 at *
  simp only [Array.getD_eq_getD_getElem?, List.getElem?_toArray, List.getElem?_cons_succ, List.getElem?_cons_zero, Option.getD_some] at e
  subst e
  subst hb0
  have D6 : Hid (D5 w w6 p BB s5) := hD6
  have F6 : Hid (Fa (w.heap.size + 1) w6 (.slice tp t.length tc) t) := fun w2 ha => hT6.agree ha
  have B6 : Hid (w6.heap[b6]? = some (.cells #[.int .i64 n1, .int .i64 n2, .int .i64 n3, .int .i64 n4, .slice tp t.length tc] 24 (0, 0)) ∧ BB < b6) := ⟨hb3, hb1⟩
  clear hD6 hT6 hb3 hb1 hb2 D1 H1 H2 H3 H4 H5
  have c4 := D6.out.c4
  obtain ⟨y0, y1, y2, y3, y4, yf⟩ := z5_cells D6.out.at2
  obtain ⟨en, HEN⟩ : ∃ en, Hid ((!s5.2 && decide (s5.1 = [])) = en) := ⟨_, rfl⟩
  obtain ⟨tn, HTN⟩ : ∃ tn, Hid (t.length = tn) := ⟨_, rfl⟩
  rw [HTN.out] at B6 F6
  have HRT : Hid (∀ W, Calls Tryz.prog 12 #[.agg #[.int .i64 n1, .int .i64 n2, .int .i64 n3, .int .i64 n4, .slice tp tn tc]] W fun e w' => e = .returned (.bool (rright ⟨n1, n2, n3, n4, t⟩)) ∧ Below W.heap.size W w') := fun W => by
    have := rright_any ⟨n1, n2, n3, n4, t⟩ tp tc W
    unfold RecV at this
    simp only [HTN.out] at this
    exact this
  have HEQ : Hid (DSays l w = fun e w' => Below w.heap.size w w' ∧ ((en = true ∧ rright ⟨n1, n2, n3, n4, t⟩ = true ∧ ∃ q c, e = .returned (.tuple #[.agg (RecV ⟨n1, n2, n3, n4, t⟩ q c), .int .i64 0]) ∧ Fa w.heap.size w' (.slice q t.length c) t) ∨ (¬ (en = true ∧ rright ⟨n1, n2, n3, n4, t⟩ = true) ∧ e = .returned (.tuple #[.agg z5, .int .i64 10])))) := by
    funext e w'
    unfold DSays rdec
    rw [HE.out]
    simp only
    have hen := HEN.out
    apply propext
    by_cases h1 : s5.2 = false ∧ s5.1 = [] ∧ rright ⟨n1, n2, n3, n4, t⟩ = true
    · obtain ⟨h1, h2, h3⟩ := h1
      have : en = true := by rw [← hen]; simp [h1, h2]
      simp [h1, h2, h3, this]
    · rw [if_neg h1]
      have : ¬ (en = true ∧ rright ⟨n1, n2, n3, n4, t⟩ = true) := fun ⟨h2, h3⟩ => by
        rw [← hen] at h2
        simp at h2
        exact h1 ⟨h2.1, h2.2, h3⟩
      constructor
      · rintro ⟨g1, g2⟩
        exact ⟨g1, .inr ⟨this, g2⟩⟩
      · rintro ⟨g1, ⟨g2, g3, _⟩ | ⟨_, g2⟩⟩
        · exact absurd ⟨g2, g3⟩ this
        · exact ⟨g1, g2⟩
  clear HE
  obtain ⟨R, HR⟩ : ∃ R, Hid (rright ⟨n1, n2, n3, n4, t⟩ = R) := ⟨_, rfl⟩
  rw [HR.out] at HRT HEQ
  go_wp2_with fail
  refine (end_any w6 p _ BB s5 D6.out.rd).mono ?_
  rintro e w7 ⟨rfl, hw7⟩
  obtain rfl : w6 = w7 := hw7.symm
  rw [HEN.out]
  clear hw7 HEN
  cases en with
  | false =>
    go_wp2_with fail
    refine bodyPost_ret (results_row2 rfl _ _ w.heap.size 24 _ (0, 0) _ rfl (row5 D6.out.at2 _ _ _ _ _) Tryz.underlying24 rfl (by kernel_rfl)) rfl ?_
    rw [← HSS.out, HEQ.out]
    exact ⟨bel5 D6.out.bel (Nat.le_refl _) _ _ _ _ _, .inr ⟨(fun h => by cases h.1), rfl⟩⟩
  | true =>
    obtain ⟨a0, a1, a2, a3, a4, af⟩ := rec_cells B6.out.1
    go_wp2_with fail
    refine (HRT.out _).mono ?_
    rintro e w7 ⟨rfl, hb7⟩
    have hlt := D6.out.lt
    have D7 : Hid (D5 w w7 p BB s5) := D6.out.up (hb7.mono hlt)
    have G7 : Hid (w7.heap[b6]? = some (.cells #[.int .i64 n1, .int .i64 n2, .int .i64 n3, .int .i64 n4, .slice tp tn tc] 24 (0, 0)) ∧ Fa (w.heap.size + 1) w7 (.slice tp tn tc) t) := ⟨(hb7.block _ (Array.getElem?_eq_some_iff.1 B6.out.1).1).trans B6.out.1, F6.out.below hb7⟩
    clear hb7 hlt D6 F6 B6 c4 y0 y1 y2 y3 y4 yf a0 a1 a2 a3 a4 af HRT
    obtain ⟨y0, y1, y2, y3, y4, yf⟩ := z5_cells D7.out.at2
    obtain ⟨a0, a1, a2, a3, a4, af⟩ := rec_cells G7.out.1
    cases R with
    | false =>
      go_wp2_with fail
      refine bodyPost_ret (results_row2 rfl _ _ w.heap.size 24 _ (0, 0) _ rfl (row5 D7.out.at2 _ _ _ _ _) Tryz.underlying24 rfl (by kernel_rfl)) rfl ?_
      rw [← HSS.out, HEQ.out]
      exact ⟨bel5 D7.out.bel (Nat.le_refl _) _ _ _ _ _, .inr ⟨(fun h => by cases h.2), rfl⟩⟩
    | true =>
      go_wp2_with fail
      refine bodyPost_ret (results_row2 rfl _ _ w.heap.size 24 _ (0, 0) _ rfl (row5 D7.out.at2 _ _ _ _ _) Tryz.underlying24 rfl (by kernel_rfl)) rfl ?_
      rw [← HSS.out, HEQ.out]
      have ho := only5 w7 w.heap.size (.int .i64 n1) (.int .i64 n2) (.int .i64 n3) (.int .i64 n4) (.slice tp tn tc)
      refine ⟨bel5 D7.out.bel (Nat.le_refl _) _ _ _ _ _, .inl ⟨by simp, by simp, tp, tc, ?_, ?_⟩⟩
      · show _ = Ending.returned (.tuple #[.agg #[.int .i64 n1, .int .i64 n2, .int .i64 n3, .int .i64 n4, .slice tp t.length tc], .int .i64 0])
        rw [HTN.out]
        rfl
      · rw [HTN.out]
        exact fun w2 ha => G7.out.2 w2 ((agree_only ho (fun y hy => by rw [List.mem_singleton.1 hy]; omega)).trans (agree_mono ha (by omega)))
end Go.Proofs.YtfjdaafckiefdabGreatDoor.S15
