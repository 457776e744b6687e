/- The contract of Decode. -/
import Derived.Test.YtchoiioeeepoaaaF17Rot
namespace Go.Proofs.Ytchoiioeeepoaaa.F17
open Go.RowKit C8 E9
theorem rN_count {s s' : Sta} {n : Int} (h : rN 0 8 s = (n, s')) : ∃ c : Nat, n = (c : Int) ∧ c ≤ 8 := by
  unfold rN at h
  split at h
  · cases h
    exact ⟨0, rfl, by omega⟩
  · cases h
    exact ⟨_, rfl, by omega⟩
set_option maxHeartbeats 4000000 in
theorem dec_big (sv : Value) (l : List Nat) (w : World) (hs : Src w sv l) (hl : 32768 < l.length) : Calls Try.prog 21 #[sv] w fun e w' => DecSays l w e w' := by
  obtain ⟨sq, sc, rfl, -⟩ := hs.slice
  obtain ⟨S, HSS⟩ : ∃ S, Hid (DecSays l w = S) := ⟨_, rfl⟩
  rw [HSS.out]
  have HL : Hid (32768 < l.length) := hl
  have h1 : (32768 : Int) < (l.length : Int) := by omega
  clear hs hl
  generalize l.length = ln at h1 ⊢
  have HB0 : Hid (Below w.heap.size w (w.alloc (.cells z5 34))) := bel_alloc (Nat.le_refl _) _
  go_enter Try.func21, Try.ntmps21
  go_wp2_with fail
  refine bodyPost_ret (results_row2 rfl _ _ w.heap.size 34 _ (0, 0) _ rfl (heap_alloc_new w _) Try.underlying34 rfl (by kernel_rfl)) rfl ?_
  rw [← HSS.out]
  exact DecSays.big HL.out HB0.out
set_option maxHeartbeats 4000000 in
theorem dec_walk (sv : Value) (l : List Nat) (w : World) (hs : Src w sv l) (hl : l.length ≤ 32768) (k c i : Int) (s1 s2 s3 s4 s5 s6 : Sta) (cn : Nat) (ls : List (List Nat)) (t : List Nat) (H1 : Hid (rN 1 4 (l, false) = (k, s1))) (H2 : Hid (rN 1 1099511627776 s1 = (c, s2))) (H3 : Hid (rN 0 64 s2 = (i, s3))) (H4 : Hid (rN 0 8 s3 = ((cn : Int), s4))) (hcn : cn ≤ 8) (H5 : Hid (rLs cn s4 = (ls, s5))) (H6 : Hid (rT 0 32 s5 = (t, s6))) (en : Bool) (HEN : Hid ((!s6.2 && decide (s6.1 = [])) = en)) :
    Calls Try.prog 21 #[sv] w fun e w' => DecSays l w e w' := by
  have HD : Hid (decE (l, false) = (⟨k, c, i, ls, t⟩, s6)) := decE_by H1.out H2.out H3.out H4.out (by rw [show ((cn : Int)).toNat = cn from by omega]; exact H5.out) H6.out
  have HRD : ∀ W, Hid (Below w.heap.size w W) → Calls Try.prog 35 #[sv] W fun e w' => ∃ p, e = .returned (.pointer (some ⟨p, 0, none⟩)) ∧ Hid (RdS w' p W.heap.size w'.heap.size (l, false)) ∧ Hid (W.heap.size ≤ p ∧ p < w'.heap.size) ∧ Hid (Below W.heap.size W w') := fun W hW => (read_any sv l W (hs.below hW.out) (by omega)).mono (by
    rintro e w' ⟨p, rfl, h1, h2, h3, h4⟩
    exact ⟨p, rfl, h1, ⟨h2, h3⟩, h4⟩)
  obtain ⟨sq, sc, rfl, -⟩ := hs.slice
  have HLN : Hid (l.length ≤ 32768) := hl
  have hl1 : ¬ (32768 : Int) < (l.length : Int) := by omega
  generalize l.length = ln at HRD hl1 ⊢
  clear hs hl
  have HB0 : Hid (∀ o, Below w.heap.size w (w.alloc o)) := fun o => bel_alloc (Nat.le_refl _) o
  obtain ⟨S, HSS⟩ : ∃ S, Hid (DecSays l w = S) := ⟨_, rfl⟩
  have HS : Hid (∀ e w', DecSays l w e w' → S e w') := fun e w' h => by rw [← HSS.out]; exact h
  rw [HSS.out]
  clear HSS
  go_enter Try.func21, Try.ntmps21
  go_wp2_with (first
    | (go_at_call 35; refine (HRD _ (HB0.out _)).mono ?_; rintro e w1 ⟨p, rfl, R1, P1, B1⟩; clear HRD))
  have D1 : Hid (D4 w w1 p w1.heap.size (l, false)) := D4.start B1.out R1.out P1.out.1 P1.out.2
  clear R1 P1 B1 HB0
  obtain ⟨B, HBE⟩ : ∃ B, Hid (w1.heap.size = B) := ⟨_, rfl⟩
  rw [HBE.out] at D1
  clear HBE
  refine (cNum D1 H1).mono ?_
  rintro e w2 ⟨rfl, D2, O2⟩
  go_wp2_with fail
  refine (cNum D2 H2).mono ?_
  rintro e w3 ⟨rfl, D3, O3⟩
  go_wp2_with fail
  refine (cNum D3 H3).mono ?_
  rintro e w4 ⟨rfl, D4', O4⟩
  have D7 : Hid (D4 w (w4.alloc (.cells #[.int .i64 k, .int .i64 c, .int .i64 i, .slice none 0 0, .slice none 0 0] 34)) p B s3) := D4'.out.up (bel_alloc D4'.out.lt _)
  have E7 : Hid ((w4.alloc (.cells #[.int .i64 k, .int .i64 c, .int .i64 i, .slice none 0 0, .slice none 0 0] 34)).heap[w4.heap.size]? = some (.cells #[.int .i64 k, .int .i64 c, .int .i64 i, .slice none 0 0, .slice none 0 0] 34 (0, 0))) := heap_alloc_new w4 _
  have L7 : Hid (B ≤ w4.heap.size ∧ p < w4.heap.size) := ⟨D4'.out.lt, Nat.lt_of_lt_of_le D4'.out.hi D4'.out.lt⟩
  clear D1 D2 D3 D4' O2 O3 O4 H1 H2 H3
  go_wp2_with fail
  generalize w4.alloc (.cells #[.int .i64 k, .int .i64 c, .int .i64 i, .slice none 0 0, .slice none 0 0] 34) = W7 at *
  generalize w4.heap.size = b7 at *
  refine (cNum D7 H4).mono ?_
  rintro e w5 ⟨rfl, D5, O5⟩
  have HI : Hid (∃ sl xs, D4 w w5 p B (rLs 0 s4).2 ∧ w5.heap[b7]? = some (.cells ((fun x => #[.int .i64 k, .int .i64 c, .int .i64 i, x, .slice none 0 0]) sl) 34 (0, 0)) ∧ w5.ownsRow (b7 + 1) 32 1 sl 0 xs ∧ AreL w5 p (w.heap.size + 1) B xs (rLs 0 s4).1) := ⟨_, [], D5.out, (O5.out.block b7 (Array.getElem?_eq_some_iff.1 E7.out).1 (by have := L7.out; simp; omega)).trans E7.out, own_none _ _ _ _, trivial⟩
  clear D5 O5 D7 E7 H4
  have cn1 : (cn : Int) ≤ 8 := by omega
  go_wp2_with fail
  go_loopw [27] (fun iv wr => ∃ j : Nat, j ≤ cn ∧ iv = .int .i64 j ∧ Hid (∃ sl xs, D4 w wr p B (rLs j s4).2 ∧ wr.heap[b7]? = some (.cells ((fun x => #[.int .i64 k, .int .i64 c, .int .i64 i, x, .slice none 0 0]) sl) 34 (0, 0)) ∧ wr.ownsRow (b7 + 1) 32 1 sl j xs ∧ AreL wr p (w.heap.size + 1) B xs (rLs j s4).1)) (fun iv _ => cn - (intOf iv).toNat)
  case atStart => exact ⟨0, by omega, rfl, HI⟩
  case round =>
    obtain ⟨j, hj, rfl, HJ⟩ := hrel
    clear HI
    obtain ⟨sl, xs, DJ, EJ, OJ, AJ⟩ := HJ.out
    obtain ⟨q, qc, rfl⟩ := own_slice OJ
    by_cases hlt : j < cn
    · have j1 : (j : Int) < (cn : Int) := by omega
      have j0 : (0 : Int) ≤ (j : Int) := by omega
      obtain ⟨tt, s', HT⟩ : ∃ tt s', Hid (rT 1 4096 (rLs j s4).2 = (tt, s')) := ⟨_, _, rfl⟩
      have HNX : Hid (rLs (j + 1) s4 = ((rLs j s4).1 ++ [tt], s')) := by
        show _ = _
        rw [rLs, HT.out]
      obtain ⟨wj, sj, HWJ⟩ : ∃ wj sj, Hid (rLs j s4 = (wj, sj)) := ⟨_, _, rfl⟩
      rw [HWJ.out] at DJ AJ HT HNX
      simp only at DJ AJ HT HNX
      have HBS : Hid (∀ x ∈ rotB p b7 (.slice q j qc), x < wr.heap.size ∧ (x = p ∨ B ≤ x)) := by
        intro x hx
        have hb7 := (Array.getElem?_eq_some_iff.1 EJ).1
        have h8 := L7.out
        unfold rotB at hx
        rcases List.mem_cons.1 hx with rfl | hx
        · exact ⟨by omega, .inl rfl⟩
        · rcases List.mem_cons.1 hx with rfl | hx
          · exact ⟨hb7, .inr (by omega)⟩
          · have := OJ.lt x (by simpa using hx)
            exact ⟨this.2, .inr (by omega)⟩
      have HR0 : Hid (∀ x u, Below wr.heap.size wr u → RotR w p B b7 (fun x => #[.int .i64 k, .int .i64 c, .int .i64 i, x, .slice none 0 0]) (.slice q j qc) sj s' j xs wj (wj ++ [tt]) 0 x u) := fun x u hb => rotR_below 0 x wr u hb ⟨DJ, EJ, OJ, AJ⟩
      have HBW : Hid (B ≤ wr.heap.size) := DJ.lt
      clear HJ DJ EJ OJ AJ
      go_wp2_with fail
      refine wp_region_sa (RotV p b7 (w.heap.size + 1) B (.slice q j qc) tt) (fun u u' => Only (rotB p b7 (.slice q j qc)) u u') (RotS (RotR w p B b7 (fun x => #[.int .i64 k, .int .i64 c, .int .i64 i, x, .slice none 0 0]) (.slice q j qc) sj s' j xs wj (wj ++ [tt]))) (by kernel_rfl) (only_drew _ _) (only_trans _) (RotV.kept (fun x hx => (HBS.out x hx).2)) (by kernel_rfl) (rot_start (fun x => HR0.out x _ ⟨rfl, rfl, rfl, Nat.le_refl _, fun _ _ => rfl⟩)) ?_ ?_
      · intro i2 o a' w' f hi inv hS hfi hfw hpre
        have ho : Only (rotB p b7 (.slice q j qc)) wr w' := inv.grow
        have hlt : i2 < 8 := (Array.getElem?_eq_some_iff.1 hi).1
        obtain rfl|rfl|rfl|rfl|rfl|rfl|rfl|rfl : i2 = 0 ∨ i2 = 1 ∨ i2 = 2 ∨ i2 = 3 ∨ i2 = 4 ∨ i2 = 5 ∨ i2 = 6 ∨ i2 = 7 := by omega
        · obtain rfl := Option.some.inj hi
          have h0 : a'.tmps.getD 7 undef = .pointer (some ⟨b7, 0, none⟩) := by rw [inv.old 7 (notDst_spec (by kernel_rfl))]; rfl
          exact rot_quiet _ rfl rfl (fa_run 34 3 7 b7 rfl h0 (fa25_3 b7)) (Below.refl _ _) (by decide) (by decide) hS rotR_below rfl
        · obtain rfl := Option.some.inj hi
          have h0 : a'.tmps.getD 29 undef = _ := pre_of hpre 0 29 (by kernel_rfl) (by kernel_rfl)
          obtain ⟨k, hk, hR⟩ := rot_early hS hfi
          have hc : w'.cell? ⟨b7, 3, none⟩ = some (.slice q j qc) := by rw [cell_of_row _ _ _ _ _ _ (rotR_row hk hR)]; rfl
          exact rot_quiet _ rfl rfl (load_run 31 29 b7 3 _ rfl h0 (ld22s hc)) (Below.refl _ _) (by decide) (by decide) hS rotR_below rfl
        · obtain rfl := Option.some.inj hi
          exact rot_quiet _ rfl rfl rfl (Below.refl _ _) (by decide) (by decide) hS rotR_below (by show a'.tmps.getD 6 undef = _; rw [inv.old 6 (notDst_spec (by kernel_rfl))]; rfl)
        · obtain rfl := Option.some.inj hi
          have h0 : a'.tmps.getD 31 undef = _ := pre_of hpre 2 31 (by kernel_rfl) (by kernel_rfl)
          refine rot_call (k := 0) 37 #[.pointer (some ⟨p, 0, none⟩), .int .i64 1, .int .i64 4096] rfl rfl (meth_run 37 31 _ _ _ _ _ rfl h0 rfl rfl (call26 _ _ _ _)) rfl hfi (fun c h _ => absurd rfl h) (by decide) (by decide) hS (fun hR => ?_)
          exact (cTxt (w := w) hR.1 HT).mono (by rintro e u ⟨tp, tc, rfl, T, d, o'⟩; exact ⟨_, rfl, o'.out.more (by simp [rotB]), ⟨d.out, rot_keep hR.2.1 hR.2.2.1 hR.2.2.2 o'.out L7.out.2⟩, tp, tc, rfl, T.out⟩)
        · obtain rfl := Option.some.inj hi
          obtain ⟨tp, tc, h0, hT⟩ := pre_of hpre 3 32 (by kernel_rfl) (by kernel_rfl)
          exact rot_quiet _ rfl rfl (bs_run 32 tp _ tc rfl h0) (bel_alloc (Nat.le_refl _) _) (by decide) (by decide) hS rotR_below ⟨w'.heap.size, tp, tc, rfl, heap_alloc_new _ _, hT.below (bel_alloc (Nat.le_trans HBW.out ho.size) _), fun e => by have := (HBS.out _ e).1; have := ho.size; omega⟩
        · have hop : o.op = .call { callee := .builtin .append, args := #[.tmp 30, .tmp 33], argTypes := #[31, 31] } := by rw [← Option.some.inj hi]; rfl
          have hwd : ∀ y, Region.wanted o y = true := by intro y; rw [← Option.some.inj hi]; rfl
          have hdst : o.dst = some 34 := by rw [← Option.some.inj hi]; rfl
          rw [← Option.some.inj hi] at hpre hfw
          have h0 : a'.tmps.getD 30 undef = _ := pre_of hpre 1 30 (by kernel_rfl) (by kernel_rfl)
          obtain ⟨g, tp, tc, h1, hg, hT, _⟩ := pre_of hpre 4 33 (by kernel_rfl) (by kernel_rfl)
          have h5 := been_of hfw 3 (by kernel_rfl)
          have hR := rot_two hS hfi h5
          have hbs : b7 + 1 ≤ w'.heap.size := (Array.getElem?_eq_some_iff.1 hR.2.1).1
          obtain ⟨v, w'', hr, k1, k2⟩ := app_run 30 33 (b7 + 1) j _ xs g tp _ tc hop h0 h1 hR.2.2.1 hg (by omega) hbs
          have hbl := below_append hR.2.2.1 k2 hbs
          have hbB : Below B w' w'' := bel_le hbl (by have := L7.out; omega)
          exact rot_app v hi (hwd _) hr (Only.of_grown k2 (fun x hx => by unfold rotB; rw [hx]; simp)) hfi h5 (been_of hfw 1 (by kernel_rfl)) hdst (by have e50 : a'.tmps.size = 50 := inv.size; omega) hS ⟨hR.1.up hbB, (hbl.block b7 (Nat.lt_succ_self _)).trans hR.2.1, _, k1, (hR.2.2.2.turn (fun v t ht => ht.below hbB)).snoc (hT.below hbB) (rT_le (by decide) HT.out)⟩ trivial
        · obtain rfl := Option.some.inj hi
          have h0 : a'.tmps.getD 7 undef = .pointer (some ⟨b7, 0, none⟩) := by rw [inv.old 7 (notDst_spec (by kernel_rfl))]; rfl
          exact rot_quiet _ rfl rfl (fa_run 34 3 7 b7 rfl h0 (fa25_3 b7)) (Below.refl _ _) (by decide) (by decide) hS rotR_below rfl
        · obtain rfl := Option.some.inj hi
          have h0 : a'.tmps.getD 35 undef = _ := pre_of hpre 6 35 (by kernel_rfl) (by kernel_rfl)
          have h8 := been_of hfw 5 (by kernel_rfl)
          obtain ⟨r1, r2, xs2, r3, r4⟩ := rot_three hS hfi h8
          obtain ⟨q2, c2, e2⟩ := own_slice r3
          have hc : w'.cell? ⟨b7, 3, none⟩ = some (.slice q j qc) := by rw [cell_of_row _ _ _ _ _ _ r2]; rfl
          have hbe : Below b7 w' (w'.setCell ⟨b7, 3, none⟩ (.slice q2 (j + 1) c2)) := (Below.refl _ _).setCell (p := ⟨b7, 3, none⟩) (Nat.le_refl _) _
          have hon : Only [b7] w' (w'.setCell ⟨b7, 3, none⟩ (.slice q2 (j + 1) c2)) := Only.setCell _ _ _ (by simp)
          refine rot_sto rfl rfl (st_run 35 34 b7 3 q2 (j + 1) c2 _ rfl h0 e2 hc (frozen_of_row _ _ _ _ _ r2)) (hon.more (by simp [rotB])) hfi h8 rfl hS ⟨r1.up (bel_le hbe L7.out.1), .slice q2 (j + 1) c2, xs2, heap_setCell_same _ b7 3 _ 34 _ r2, ?_, r4.turn (fun v t ht => ht.below (bel_le hbe L7.out.1))⟩ trivial
          rw [e2] at r3
          exact own_only r3 hon (own_off r3 (by simp))
      · intro a' w3 f inv hS hall _
        have hdf : a'.defers = [] := inv.defers
        have e := frame_of [29, 30, 31, 32, 33, 34, 35] inv.size (fun t ht => inv.old t (dstsIn_spec (ts := [29, 30, 31, 32, 33, 34, 35]) (by kernel_rfl) t ht))
        have hR : D4 w w3 p B s' ∧ _ := hS.2.done (fun c hc => hall c (show c < 8 by simp at hc; omega))
        have HN : Hid (∃ sl xs, D4 w w3 p B (rLs (j + 1) s4).2 ∧ w3.heap[b7]? = some (.cells ((fun x => #[.int .i64 k, .int .i64 c, .int .i64 i, x, .slice none 0 0]) sl) 34 (0, 0)) ∧ w3.ownsRow (b7 + 1) 32 1 sl (j + 1) xs ∧ AreL w3 p (w.heap.size + 1) B xs (rLs (j + 1) s4).1) := by
          obtain ⟨r1, v, xs2, r2, r3, r4⟩ := hR
          refine ⟨v, xs2, ?_, r2, r3, ?_⟩
          · rw [HNX.out]; exact r1
          · rw [HNX.out]; exact r4
        clear inv hall hS hR HR0 HBS HT HNX HWJ HBW
        obtain ⟨tmps, defers⟩ := a'
        obtain rfl : defers = [] := hdf
        replace e : tmps = List.foldl (fun G t => G.setIfInBounds t (tmps.getD t undef)) _ [29, 30, 31, 32, 33, 34, 35] := e
        simp only [List.foldl_cons, List.foldl_nil] at e
        generalize tmps.getD 29 undef = x29 at *
        generalize tmps.getD 30 undef = x30 at *
        generalize tmps.getD 31 undef = x31 at *
        generalize tmps.getD 32 undef = x32 at *
        generalize tmps.getD 33 undef = x33 at *
        generalize tmps.getD 34 undef = x34 at *
        generalize tmps.getD 35 undef = x35 at *
        simp only [List.setIfInBounds_toArray, List.set_cons_succ, List.set_cons_zero] at e
        subst e
        go_wp2_with fail
        refine ⟨⟨j + 1, by omega, by simp, HN⟩, ?_⟩
        simp only [intOf]
        omega
    · obtain rfl : j = cn := by omega
      have j1 : ¬ (j : Int) < (j : Int) := by omega
      rw [H5.out] at DJ AJ
      simp only at DJ AJ
      have hlen : ls.length = j := by have := rLs_length j s4; rw [H5.out] at this; exact this
      have D6 : Hid (D4 w wr p B s5) := DJ
      have HPK : Hid (wr.heap[b7]? = some (.cells #[.int .i64 k, .int .i64 c, .int .i64 i, .slice q j qc, .slice none 0 0] 34 (0, 0)) ∧ wr.ownsRow (b7 + 1) 32 1 (.slice q j qc) j xs ∧ AreL wr p (w.heap.size + 1) B xs ls ∧ ls.length = j) := ⟨EJ, OJ, AJ, hlen⟩
      clear HJ DJ EJ OJ AJ hlen
      go_wp2_with fail
      refine (cTxt D6 H6).mono ?_
      rintro e w6 ⟨tp, tc, rfl, T6, D8, O6⟩
      have HP8 := rot_keep HPK.out.1 HPK.out.2.1 HPK.out.2.2.1 O6.out L7.out.2
      have d4 : w6.cell? ⟨b7, 4, none⟩ = some (.slice none 0 0) := by rw [cell_of_row _ _ _ _ _ _ HP8.1]; rfl
      have f4 : w6.frozen? ⟨b7, 4, none⟩ = false := frozen_of_row _ _ _ _ _ HP8.1
      have E9 : Hid ((w6.setCell ⟨b7, 4, none⟩ (.slice tp t.length tc)).heap[b7]? = some (.cells #[.int .i64 k, .int .i64 c, .int .i64 i, .slice q j qc, .slice tp t.length tc] 34 (0, 0))) := heap_setCell_same _ b7 4 _ 34 _ HP8.1
      have hbe : Below b7 w6 (w6.setCell ⟨b7, 4, none⟩ (.slice tp t.length tc)) := (Below.refl _ _).setCell (p := ⟨b7, 4, none⟩) (Nat.le_refl _) _
      have D9 : Hid (D4 w (w6.setCell ⟨b7, 4, none⟩ (.slice tp t.length tc)) p B s6) := D8.out.up (bel_le hbe L7.out.1)
      have hon : Only [b7] w6 (w6.setCell ⟨b7, 4, none⟩ (.slice tp t.length tc)) := Only.setCell _ _ _ (by simp)
      have EN9 : Hid (FrNew (w.heap.size + 1) (w6.setCell ⟨b7, 4, none⟩ (.slice tp t.length tc)) (.agg #[.int .i64 k, .int .i64 c, .int .i64 i, .slice q j qc, .slice tp t.length tc]) ⟨k, c, i, ls, t⟩) := fun w2 ha => ⟨q, qc, tp, tc, by simp [FrV, HPK.out.2.2.2], (HP8.2.2.turn (fun v t ht => ht.below (bel_le hbe L7.out.1))).row (own_only HP8.2.1 hon (own_off HP8.2.1 (by simp))) (by have := L7.out; have := D8.out.lo; omega) ha HPK.out.2.2.2, Tx.agree (T6.out.below (bel_le hbe L7.out.1)) ha, by simp only; have := HPK.out.2.2.2; omega, rT_le (by decide) H6.out⟩
      clear HP8 hbe hon D6 D8 HPK T6 O6
      go_wp2_with fail
      clear d4 f4
      generalize w6.setCell ⟨b7, 4, none⟩ (.slice tp t.length tc) = w7 at *
      refine (cEnd D9 HEN).mono ?_
      rintro e _ ⟨rfl, rfl⟩
      have x0 : w7.cell? ⟨w.heap.size, 0, none⟩ = some (.int .i64 0) := by rw [cell_of_row _ _ _ _ _ _ D9.out.at2]; rfl
      have y0 : w7.frozen? ⟨w.heap.size, 0, none⟩ = false := frozen_of_row _ _ _ _ _ D9.out.at2
      have x1 : w7.cell? ⟨w.heap.size, 1, none⟩ = some (.int .i64 0) := by rw [cell_of_row _ _ _ _ _ _ D9.out.at2]; rfl
      have y1 : w7.frozen? ⟨w.heap.size, 1, none⟩ = false := frozen_of_row _ _ _ _ _ D9.out.at2
      have x2 : w7.cell? ⟨w.heap.size, 2, none⟩ = some (.int .i64 0) := by rw [cell_of_row _ _ _ _ _ _ D9.out.at2]; rfl
      have y2 : w7.frozen? ⟨w.heap.size, 2, none⟩ = false := frozen_of_row _ _ _ _ _ D9.out.at2
      have x3 : w7.cell? ⟨w.heap.size, 3, none⟩ = some (.slice none 0 0) := by rw [cell_of_row _ _ _ _ _ _ D9.out.at2]; rfl
      have y3 : w7.frozen? ⟨w.heap.size, 3, none⟩ = false := frozen_of_row _ _ _ _ _ D9.out.at2
      have x4 : w7.cell? ⟨w.heap.size, 4, none⟩ = some (.slice none 0 0) := by rw [cell_of_row _ _ _ _ _ _ D9.out.at2]; rfl
      have y4 : w7.frozen? ⟨w.heap.size, 4, none⟩ = false := frozen_of_row _ _ _ _ _ D9.out.at2
      cases en with
      | false =>
        go_wp2_with fail
        refine bodyPost_ret (results_row2 rfl _ _ w.heap.size 34 _ (0, 0) _ rfl (row5 D9.out.at2 _ _ _ _ _) Try.underlying34 rfl (by kernel_rfl)) rfl ?_
        exact HS.out _ _ (DecSays.no HLN.out (bel5 D9.out.bel (Nat.le_refl _) _ _ _ _ _) (dec_none1 HD.out HEN.out))
      | true =>
        have d0 : w7.cell? ⟨b7, 0, none⟩ = some (.int .i64 k) := by rw [cell_of_row _ _ _ _ _ _ E9.out]; rfl
        have d1 : w7.cell? ⟨b7, 1, none⟩ = some (.int .i64 c) := by rw [cell_of_row _ _ _ _ _ _ E9.out]; rfl
        have d2 : w7.cell? ⟨b7, 2, none⟩ = some (.int .i64 i) := by rw [cell_of_row _ _ _ _ _ _ E9.out]; rfl
        have d3 : w7.cell? ⟨b7, 3, none⟩ = some (.slice q j qc) := by rw [cell_of_row _ _ _ _ _ _ E9.out]; rfl
        have d4 : w7.cell? ⟨b7, 4, none⟩ = some (.slice tp t.length tc) := by rw [cell_of_row _ _ _ _ _ _ E9.out]; rfl
        have HRT := Right_any ⟨k, c, i, ls, t⟩ _ w7 EN9.out.is
        cases hr : right ⟨k, c, i, ls, t⟩ with
        | false =>
          rw [hr] at HRT
          have HR : Hid (right ⟨k, c, i, ls, t⟩ = false) := hr
          clear hr
          have HR7 : ∀ W, W = w7 → Calls Try.prog 39 #[.agg #[.int .i64 k, .int .i64 c, .int .i64 i, .slice q j qc, .slice tp t.length tc]] W fun e w' => e = .returned (.bool false) ∧ Hid (D4 w w' p B s6) ∧ Hid (Below w7.heap.size w7 w') ∧ w'.cell? ⟨w.heap.size, 0, none⟩ = some (.int .i64 0) ∧ w'.frozen? ⟨w.heap.size, 0, none⟩ = false ∧ w'.cell? ⟨w.heap.size, 1, none⟩ = some (.int .i64 0) ∧ w'.frozen? ⟨w.heap.size, 1, none⟩ = false ∧ w'.cell? ⟨w.heap.size, 2, none⟩ = some (.int .i64 0) ∧ w'.frozen? ⟨w.heap.size, 2, none⟩ = false ∧ w'.cell? ⟨w.heap.size, 3, none⟩ = some (.slice none 0 0) ∧ w'.frozen? ⟨w.heap.size, 3, none⟩ = false ∧ w'.cell? ⟨w.heap.size, 4, none⟩ = some (.slice none 0 0) ∧ w'.frozen? ⟨w.heap.size, 4, none⟩ = false := by
            rintro W rfl
            refine HRT.mono ?_
            rintro e w' ⟨rfl, h7⟩
            have D7 : D4 w w' p B s6 := D9.out.up (bel_le h7 D9.out.lt)
            have E7 := (h7.block b7 (Array.getElem?_eq_some_iff.1 E9.out).1).trans E9.out
            refine ⟨rfl, D7, h7, ?_, frozen_of_row _ _ _ _ _ D7.at2, ?_, frozen_of_row _ _ _ _ _ D7.at2, ?_, frozen_of_row _ _ _ _ _ D7.at2, ?_, frozen_of_row _ _ _ _ _ D7.at2, ?_, frozen_of_row _ _ _ _ _ D7.at2⟩
            · rw [cell_of_row _ _ _ _ _ _ D7.at2]; rfl
            · rw [cell_of_row _ _ _ _ _ _ D7.at2]; rfl
            · rw [cell_of_row _ _ _ _ _ _ D7.at2]; rfl
            · rw [cell_of_row _ _ _ _ _ _ D7.at2]; rfl
            · rw [cell_of_row _ _ _ _ _ _ D7.at2]; rfl
          clear HRT
          go_wp2_with (first | (go_at_call 39; refine (HR7 _ rfl).mono ?_; rintro e w8 ⟨rfl, D10, B10, u0, v0, u1, v1, u2, v2, u3, v3, u4, v4⟩))
          refine bodyPost_ret (results_row2 rfl _ _ w.heap.size 34 _ (0, 0) _ rfl (row5 D10.out.at2 _ _ _ _ _) Try.underlying34 rfl (by kernel_rfl)) rfl ?_
          exact HS.out _ _ (DecSays.no HLN.out (bel5 D10.out.bel (Nat.le_refl _) _ _ _ _ _) (dec_none2 HD.out HR.out))
        | true =>
          rw [hr] at HRT
          have HR : Hid (right ⟨k, c, i, ls, t⟩ = true) := hr
          clear hr
          have HR7 : ∀ W, W = w7 → Calls Try.prog 39 #[.agg #[.int .i64 k, .int .i64 c, .int .i64 i, .slice q j qc, .slice tp t.length tc]] W fun e w' => e = .returned (.bool true) ∧ Hid (D4 w w' p B s6) ∧ Hid (Below w7.heap.size w7 w') ∧ w'.cell? ⟨w.heap.size, 0, none⟩ = some (.int .i64 0) ∧ w'.frozen? ⟨w.heap.size, 0, none⟩ = false ∧ w'.cell? ⟨w.heap.size, 1, none⟩ = some (.int .i64 0) ∧ w'.frozen? ⟨w.heap.size, 1, none⟩ = false ∧ w'.cell? ⟨w.heap.size, 2, none⟩ = some (.int .i64 0) ∧ w'.frozen? ⟨w.heap.size, 2, none⟩ = false ∧ w'.cell? ⟨w.heap.size, 3, none⟩ = some (.slice none 0 0) ∧ w'.frozen? ⟨w.heap.size, 3, none⟩ = false ∧ w'.cell? ⟨w.heap.size, 4, none⟩ = some (.slice none 0 0) ∧ w'.frozen? ⟨w.heap.size, 4, none⟩ = false ∧ w'.cell? ⟨b7, 0, none⟩ = some (.int .i64 k) ∧ w'.cell? ⟨b7, 1, none⟩ = some (.int .i64 c) ∧ w'.cell? ⟨b7, 2, none⟩ = some (.int .i64 i) ∧ w'.cell? ⟨b7, 3, none⟩ = some (.slice q j qc) ∧ w'.cell? ⟨b7, 4, none⟩ = some (.slice tp t.length tc) := by
            rintro W rfl
            refine HRT.mono ?_
            rintro e w' ⟨rfl, h7⟩
            have D7 : D4 w w' p B s6 := D9.out.up (bel_le h7 D9.out.lt)
            have E7 := (h7.block b7 (Array.getElem?_eq_some_iff.1 E9.out).1).trans E9.out
            refine ⟨rfl, D7, h7, ?_, frozen_of_row _ _ _ _ _ D7.at2, ?_, frozen_of_row _ _ _ _ _ D7.at2, ?_, frozen_of_row _ _ _ _ _ D7.at2, ?_, frozen_of_row _ _ _ _ _ D7.at2, ?_, frozen_of_row _ _ _ _ _ D7.at2, ?_, ?_, ?_, ?_, ?_⟩
            · rw [cell_of_row _ _ _ _ _ _ D7.at2]; rfl
            · rw [cell_of_row _ _ _ _ _ _ D7.at2]; rfl
            · rw [cell_of_row _ _ _ _ _ _ D7.at2]; rfl
            · rw [cell_of_row _ _ _ _ _ _ D7.at2]; rfl
            · rw [cell_of_row _ _ _ _ _ _ D7.at2]; rfl
            · rw [cell_of_row _ _ _ _ _ _ E7]; rfl
            · rw [cell_of_row _ _ _ _ _ _ E7]; rfl
            · rw [cell_of_row _ _ _ _ _ _ E7]; rfl
            · rw [cell_of_row _ _ _ _ _ _ E7]; rfl
            · rw [cell_of_row _ _ _ _ _ _ E7]; rfl
          clear HRT
          go_wp2_with (first | (go_at_call 39; refine (HR7 _ rfl).mono ?_; rintro e w8 ⟨rfl, D10, B10, u0, v0, u1, v1, u2, v2, u3, v3, u4, v4, z0, z1, z2, z3, z4⟩))
          refine bodyPost_ret (results_row2 rfl _ _ w.heap.size 34 _ (0, 0) _ rfl (row5 D10.out.at2 _ _ _ _ _) Try.underlying34 rfl (by kernel_rfl)) rfl ?_
          exact HS.out _ _ (DecSays.yes HLN.out (bel5 D10.out.bel (Nat.le_refl _) _ _ _ _ _) (dec_some HD.out HEN.out HR.out) ((EN9.out.agree (Agree.below B10.out)).last (only5 _ _ _ _ _ _ _)))
theorem Decode_any (sv : Value) (l : List Nat) (w : World) (hs : Src w sv l) :
    Calls Try.prog 21 #[sv] w fun e w' => DecSays l w e w' := by
  by_cases hl : l.length ≤ 32768
  · obtain ⟨k, s1, H1⟩ : ∃ k s1, rN 1 4 (l, false) = (k, s1) := ⟨_, _, rfl⟩
    obtain ⟨c, s2, H2⟩ : ∃ c s2, rN 1 1099511627776 s1 = (c, s2) := ⟨_, _, rfl⟩
    obtain ⟨i, s3, H3⟩ : ∃ i s3, rN 0 64 s2 = (i, s3) := ⟨_, _, rfl⟩
    obtain ⟨n, s4, H4⟩ : ∃ n s4, rN 0 8 s3 = (n, s4) := ⟨_, _, rfl⟩
    obtain ⟨cn, rfl, hcn⟩ := rN_count H4
    obtain ⟨ls, s5, H5⟩ : ∃ ls s5, rLs cn s4 = (ls, s5) := ⟨_, _, rfl⟩
    obtain ⟨t, s6, H6⟩ : ∃ t s6, rT 0 32 s5 = (t, s6) := ⟨_, _, rfl⟩
    exact dec_walk sv l w hs hl k c i s1 s2 s3 s4 s5 s6 cn ls t H1 H2 H3 H4 hcn H5 H6 _ rfl
  · exact dec_big sv l w hs (by omega)
end Go.Proofs.Ytchoiioeeepoaaa.F17
