/- The document's Read of frames. -/
import Derived.Test.YtmllecdbedighaaF17Rst
namespace Go.Proofs.Ytmllecdbedighaa.F17
open Go.RowKit C8 E9
theorem rN_count2 {s s' : Sta} {n : Int} (h : rN 0 8 s = (n, s')) : ∃ c : Nat, n = (c : Int) ∧ c ≤ 8 := by
  unfold rN at h
  split at h
  · cases h
    exact ⟨0, rfl, by omega⟩
  · cases h
    exact ⟨_, rfl, by omega⟩
theorem rT_small {lo hi : Int} {s s' : Sta} {t : List Nat} (hh : hi ≤ 100000) (h : rT lo hi s = (t, s')) : t.length ≤ 100000 := by
  unfold rT at h
  split at h
  · cases h
    simp
  · cases h
    rw [List.length_take]
    omega
theorem last3b (w : World) (A B : Obj) (cs : Array Value) (t : TypeId) : (((w.alloc A).alloc B).alloc (.cells cs t)).heap[w.heap.size + 2]? = some (.cells cs t (0, 0)) := by
  have h := heap_alloc_new ((w.alloc A).alloc B) (.cells cs t)
  have e : ((w.alloc A).alloc B).heap.size = w.heap.size + 2 := by simp
  rwa [e] at h
set_option maxHeartbeats 4000000 in
theorem read_big (sv : Value) (l : List Nat) (w : World) (hs : Src w sv l) (hl : 32768 < l.length) : Calls Try.prog 17 #[sv] w fun e w' => ReadSays l w e w' := by
  obtain ⟨sq, sc, rfl, -⟩ := hs.slice
  obtain ⟨S, HSS⟩ : ∃ S, Hid (ReadSays l w = S) := ⟨_, rfl⟩
  rw [HSS.out]
  have HL : Hid (32768 < l.length) := hl
  have h1 : (32768 : Int) < (l.length : Int) := by omega
  clear hs hl
  generalize l.length = ln at h1 ⊢
  have HB0 : Hid (Below w.heap.size w (w.alloc (.cells z5 28))) := bel_alloc (Nat.le_refl _) _
  go_enter Try.func17, Try.ntmps17
  go_wp2_with fail
  refine bodyPost_ret (results_row2 rfl _ _ w.heap.size 28 _ (0, 0) _ rfl (heap_alloc_new w _) Try.underlying28 rfl (by kernel_rfl)) rfl ?_
  rw [← HSS.out]
  exact ⟨HB0.out, .inl ⟨HL.out, rfl⟩⟩
set_option maxHeartbeats 8000000 in
theorem read_walk (sv : Value) (l : List Nat) (w0 : World) (hs : Src w0 sv l) (hl : l.length ≤ 32768) (k c i : Int) (s1 s2 s3 s4 : Sta) (cn : Nat) (H1 : Hid (rN 1 4 (l, false) = (k, s1))) (H2 : Hid (rN 1 1099511627776 s1 = (c, s2))) (H3 : Hid (rN 0 64 s2 = (i, s3))) (H4 : Hid (rN 0 8 s3 = ((cn : Int), s4))) (hcn : cn ≤ 8) :
    Calls Try.prog 17 #[sv] w0 fun e w' => ReadSays l w0 e w' := by
  have HEND : Hid (∀ j t s6, j ≤ cn → (j = cn ∨ (rLs j s4).2.2 = true) → rT 0 32 (rLs j s4).2 = (t, s6) → (decE (l, false) = (⟨k, c, i, (rLs j s4).1, t⟩, s6) ∨ (s6.2 = true ∧ dec l = none))) := fun j t s6 hj he h6 => read_end H1.out H2.out H3.out H4.out hj he h6
  obtain ⟨sq, sc, rfl, -⟩ := hs.slice
  have HLN : Hid (l.length ≤ 32768) := hl
  have HSR : Hid (Src w0 (.slice sq l.length sc) l) := hs
  have hl1 : ¬ (32768 : Int) < (l.length : Int) := by omega
  clear hs hl
  generalize l.length = ln at HSR hl1 ⊢
  have HYES : Hid (∀ F v w', dec l = some F → Below w0.heap.size w0 w' → FrIs w' v F → ReadSays l w0 (.returned (.tuple #[v, .int .i64 0])) w') := fun F v w' h1 h2 h3 => ⟨h2, .inr ⟨HLN.out, .inl ⟨F, v, h1, rfl, h3⟩⟩⟩
  have HNO : Hid (∀ w', dec l = none → Below w0.heap.size w0 w' → ReadSays l w0 (.returned (.tuple #[.agg z5, .int .i64 10])) w') := fun w' h1 h2 => ⟨h2, .inr ⟨HLN.out, .inr ⟨h1, rfl⟩⟩⟩
  obtain ⟨S, HSS⟩ : ∃ S, Hid (ReadSays l w0 = S) := ⟨_, rfl⟩
  rw [HSS.out] at HYES HNO ⊢
  clear HSS
  have HW : Hid (∃ w, w = ((w0.alloc (.cells z5 28)).alloc (.cells #[.slice sq ln sc, .int .i64 0, .bool false] 55)).alloc (.cells z5 28)) := ⟨_, rfl⟩
  have HG : Hid (Rg w0 (((w0.alloc (.cells z5 28)).alloc (.cells #[.slice sq ln sc, .int .i64 0, .bool false] 55)).alloc (.cells z5 28)) (((w0.alloc (.cells z5 28)).alloc (.cells #[.slice sq ln sc, .int .i64 0, .bool false] 55)).alloc (.cells z5 28)) (w0.heap.size + 2) (w0.heap.size + 1) (.slice sq ln sc) l (l, false) z5 ∧ (((w0.alloc (.cells z5 28)).alloc (.cells #[.slice sq ln sc, .int .i64 0, .bool false] 55)).alloc (.cells z5 28)).heap[w0.heap.size]? = some (.cells z5 28 (0, 0))) := by
    refine ⟨⟨⟨by omega, by omega, by omega, HSR.out, by have := HLN.out; omega, bel3 w0 _ _ _⟩, ⟨0, mid3 w0 _ _ _, Nat.zero_le _, rfl⟩, last3b w0 _ _ _ _, Only.refl _ _⟩, ?_⟩
    rw [Below.heap_alloc _ _ _ (by simp; omega)]
    exact heap_alloc2_old w0 _ _
  clear HW
  go_enter Try.func17, Try.ntmps17
  go_wp2_with fail
  obtain ⟨w, HWE⟩ : ∃ w, Hid (((w0.alloc (.cells z5 28)).alloc (.cells #[.slice sq ln sc, .int .i64 0, .bool false] 55)).alloc (.cells z5 28) = w) := ⟨_, rfl⟩
  have HWF : Hid (((w0.alloc (.cells #[.int .i64 0, .int .i64 0, .int .i64 0, .slice none 0 0, .slice none 0 0] 28)).alloc (.cells #[.slice sq ln sc, .int .i64 0, .bool false] 55)).alloc (.cells #[.int .i64 0, .int .i64 0, .int .i64 0, .slice none 0 0, .slice none 0 0] 28) = w) := HWE.out
  rw [HWE.out] at HG
  rw [HWF.out]
  clear HWE HWF
  have HG0 : Hid (Rg w0 w w (w0.heap.size + 2) (w0.heap.size + 1) (.slice sq ln sc) l (l, false) #[.int .i64 0, .int .i64 0, .int .i64 0, .slice none 0 0, .slice none 0 0]) := HG.out.1
  have HRB : Hid (∀ W, Only [w0.heap.size + 2, w0.heap.size + 1] w W → W.heap[w0.heap.size]? = some (.cells z5 28 (0, 0))) := fun W h => (h.block _ (Array.getElem?_eq_some_iff.1 HG.out.2).1 (by simp)).trans HG.out.2
  have HLT : Hid (w0.heap.size + 2 < w.heap.size ∧ w0.heap.size + 1 < w.heap.size ∧ w0.heap.size < w.heap.size) := by
    have := (Array.getElem?_eq_some_iff.1 HG.out.1.ev).1
    exact ⟨this, by omega, by omega⟩
  clear HG HSR
  obtain ⟨pe, HPE⟩ : ∃ pe, Hid (w0.heap.size + 2 = pe) := ⟨_, rfl⟩
  obtain ⟨pr, HPR⟩ : ∃ pr, Hid (w0.heap.size + 1 = pr) := ⟨_, rfl⟩
  rw [HPE.out, HPR.out] at HG0 HRB HLT
  try rw [HPE.out]
  try rw [HPR.out]
  refine (dN HG0 H1).mono ?_
  rintro e u1 ⟨rfl, G1, _⟩
  have x0 : u1.cell? ⟨pe, 0, none⟩ = some (.int .i64 0) := by rw [cell_of_row _ _ _ _ _ _ G1.out.ev]; rfl
  have y0 : u1.frozen? ⟨pe, 0, none⟩ = false := frozen_of_row _ _ _ _ _ G1.out.ev
  have G2 : Hid (Rg w0 w (u1.setCell ⟨pe, 0, none⟩ (.int .i64 k)) pe pr (.slice sq ln sc) l s1 #[.int .i64 k, .int .i64 0, .int .i64 0, .slice none 0 0, .slice none 0 0]) := G1.out.put 0 _ (heap_setCell_same _ pe 0 _ 28 _ G1.out.ev)
  clear HG0 G1 H1
  go_wp2_with fail
  refine (dN G2 H2).mono ?_
  rintro e u2 ⟨rfl, G3, _⟩
  clear x0 y0
  have x0 : u2.cell? ⟨pe, 1, none⟩ = some (.int .i64 0) := by rw [cell_of_row _ _ _ _ _ _ G3.out.ev]; rfl
  have y0 : u2.frozen? ⟨pe, 1, none⟩ = false := frozen_of_row _ _ _ _ _ G3.out.ev
  have G4 : Hid (Rg w0 w (u2.setCell ⟨pe, 1, none⟩ (.int .i64 c)) pe pr (.slice sq ln sc) l s2 #[.int .i64 k, .int .i64 c, .int .i64 0, .slice none 0 0, .slice none 0 0]) := G3.out.put 1 _ (heap_setCell_same _ pe 1 _ 28 _ G3.out.ev)
  clear G2 G3 H2
  go_wp2_with fail
  refine (dN G4 H3).mono ?_
  rintro e u3 ⟨rfl, G5, _⟩
  clear x0 y0
  have x0 : u3.cell? ⟨pe, 2, none⟩ = some (.int .i64 0) := by rw [cell_of_row _ _ _ _ _ _ G5.out.ev]; rfl
  have y0 : u3.frozen? ⟨pe, 2, none⟩ = false := frozen_of_row _ _ _ _ _ G5.out.ev
  have G6 : Hid (Rg w0 w (u3.setCell ⟨pe, 2, none⟩ (.int .i64 i)) pe pr (.slice sq ln sc) l s3 #[.int .i64 k, .int .i64 c, .int .i64 i, .slice none 0 0, .slice none 0 0]) := G5.out.put 2 _ (heap_setCell_same _ pe 2 _ 28 _ G5.out.ev)
  clear G4 G5 H3
  go_wp2_with fail
  refine (dN G6 H4).mono ?_
  rintro e u4 ⟨rfl, G7, _⟩
  clear x0 y0 G6 H4
  have HI : Hid (∃ q qc xs, Rg w0 w u4 pe pr (.slice sq ln sc) l (rLs 0 s4).2 ((fun x => #[.int .i64 k, .int .i64 c, .int .i64 i, x, .slice none 0 0]) (.slice q 0 qc)) ∧ u4.ownsRow w.heap.size 23 1 (.slice q 0 qc) 0 xs ∧ AreS w0 xs (rLs 0 s4).1) := ⟨none, 0, [], G7.out, own_none _ _ _ _, trivial⟩
  clear G7
  have cn1 : (cn : Int) ≤ 8 := by omega
  go_wp2_with fail
  go_loopw [7] (fun iv wr => ∃ j : Nat, j ≤ cn ∧ iv = .int .i64 j ∧ Hid (∃ q qc xs, Rg w0 w wr pe pr (.slice sq ln sc) l (rLs j s4).2 ((fun x => #[.int .i64 k, .int .i64 c, .int .i64 i, x, .slice none 0 0]) (.slice q j qc)) ∧ wr.ownsRow w.heap.size 23 1 (.slice q j qc) j xs ∧ AreS w0 xs (rLs j s4).1)) (fun iv _ => cn - (intOf iv).toNat)
  case atStart => exact ⟨0, by omega, rfl, HI⟩
  case round =>
    obtain ⟨j, hj, rfl, HJ⟩ := hrel
    clear HI
    obtain ⟨q, qc, xs, GJ, OJ, AJ⟩ := HJ.out
    obtain ⟨at_, rf1, rf2⟩ := GJ.rf
    have rb := rf1.cells.2.2.1
    have j0 : (0 : Int) ≤ (j : Int) := by omega
    clear rf1 rf2 HJ
    have HG : Hid (Rg w0 w wr pe pr (.slice sq ln sc) l (rLs j s4).2 #[.int .i64 k, .int .i64 c, .int .i64 i, .slice q j qc, .slice none 0 0]) := GJ
    have HO : Hid (wr.ownsRow w.heap.size 23 1 (.slice q j qc) j xs) := OJ
    have HA : Hid (AreS w0 xs (rLs j s4).1) := AJ
    clear GJ OJ AJ
    by_cases hlt : j < cn
    · have j1 : (j : Int) < (cn : Int) := by omega
      cases hbad : (rLs j s4).2.2 with
      | true =>
        rw [hbad] at rb
        go_wp2_with fail
        obtain ⟨t, s6, HT⟩ : ∃ t s6, Hid (rT 0 32 (rLs j s4).2 = (t, s6)) := ⟨_, _, rfl⟩
        have HD := HEND.out j t s6 hj (.inr hbad) HT.out
        have hjl : (rLs j s4).1.length = j := rLs_length j s4
        refine (dT HG HT).mono ?_
        rintro e u5 ⟨tp, tc, rfl, T5, G8, O5⟩
        have HO5 : Hid (u5.ownsRow w.heap.size 23 1 (.slice q j qc) j xs) := own_only HO.out O5.out (own_off HO.out (by have := HLT.out; simp; omega))
        obtain ⟨tl, HTL⟩ : ∃ tl, Hid (t.length = tl) := ⟨_, rfl⟩
        rw [HTL.out] at T5 ⊢
        have x4 : u5.cell? ⟨pe, 4, none⟩ = some (.slice none 0 0) := by rw [cell_of_row _ _ _ _ _ _ G8.out.ev]; rfl
        have y4 : u5.frozen? ⟨pe, 4, none⟩ = false := frozen_of_row _ _ _ _ _ G8.out.ev
        have G9 : Hid (Rg w0 w (u5.setCell ⟨pe, 4, none⟩ (.slice tp tl tc)) pe pr (.slice sq ln sc) l s6 #[.int .i64 k, .int .i64 c, .int .i64 i, .slice q j qc, .slice tp tl tc]) := G8.out.put 4 _ (heap_setCell_same _ pe 4 _ 28 _ G8.out.ev)
        have HO9 : Hid ((u5.setCell ⟨pe, 4, none⟩ (.slice tp tl tc)).ownsRow w.heap.size 23 1 (.slice q j qc) j xs) := own_only HO5.out (Only.setCell _ _ _ (by simp) : Only [pe] _ _) (own_off HO5.out (by have := HLT.out; simp; omega))
        clear HG HO HO5 G8 O5 HT
        go_wp2_with fail
        clear x4 y4
        generalize u5.setCell ⟨pe, 4, none⟩ (.slice tp tl tc) = w6 at *
        obtain ⟨en, HEN⟩ : ∃ en, Hid ((!s6.2 && decide (s6.1 = [])) = en) := ⟨_, rfl⟩
        have HE30 := dE G9.out
        rw [HEN.out] at HE30
        refine HE30.mono ?_
        rintro e _ ⟨rfl, nd, rfl⟩
        have G10 : Hid (Rg w0 w (w6.drewN nd) pe pr (.slice sq ln sc) l s6 #[.int .i64 k, .int .i64 c, .int .i64 i, .slice q j qc, .slice tp tl tc]) := G9.out.up (C8.below_drewN nd _ _)
        have HO10 : Hid ((w6.drewN nd).ownsRow w.heap.size 23 1 (.slice q j qc) j xs) := own_below HO9.out (C8.below_drewN nd _ _)
        clear HE30 G9 HO9
        generalize w6.drewN nd = w7 at *
        have hrb := HRB.out w7 G10.out.on
        have x0 : w7.cell? ⟨w0.heap.size, 0, none⟩ = some (.int .i64 0) := by rw [cell_of_row _ _ _ _ _ _ hrb]; rfl
        have y0 : w7.frozen? ⟨w0.heap.size, 0, none⟩ = false := frozen_of_row _ _ _ _ _ hrb
        have x1 : w7.cell? ⟨w0.heap.size, 1, none⟩ = some (.int .i64 0) := by rw [cell_of_row _ _ _ _ _ _ hrb]; rfl
        have y1 : w7.frozen? ⟨w0.heap.size, 1, none⟩ = false := frozen_of_row _ _ _ _ _ hrb
        have x2 : w7.cell? ⟨w0.heap.size, 2, none⟩ = some (.int .i64 0) := by rw [cell_of_row _ _ _ _ _ _ hrb]; rfl
        have y2 : w7.frozen? ⟨w0.heap.size, 2, none⟩ = false := frozen_of_row _ _ _ _ _ hrb
        have x3 : w7.cell? ⟨w0.heap.size, 3, none⟩ = some (.slice none 0 0) := by rw [cell_of_row _ _ _ _ _ _ hrb]; rfl
        have y3 : w7.frozen? ⟨w0.heap.size, 3, none⟩ = false := frozen_of_row _ _ _ _ _ hrb
        have x4 : w7.cell? ⟨w0.heap.size, 4, none⟩ = some (.slice none 0 0) := by rw [cell_of_row _ _ _ _ _ _ hrb]; rfl
        have y4 : w7.frozen? ⟨w0.heap.size, 4, none⟩ = false := frozen_of_row _ _ _ _ _ hrb
        cases en with
        | false =>
          clear HO10 T5
          go_wp2_with fail
          refine bodyPost_ret (results_row2 rfl _ _ w0.heap.size 28 _ (0, 0) _ rfl (row5 hrb _ _ _ _ _) Try.underlying28 rfl (by kernel_rfl)) rfl ?_
          exact HNO.out _ (read_no1 HD HEN.out) (bel5 G10.out.below (Nat.le_refl _) _ _ _ _ _)
        | true =>
          have d0 : w7.cell? ⟨pe, 0, none⟩ = some (.int .i64 k) := by rw [cell_of_row _ _ _ _ _ _ G10.out.ev]; rfl
          have d1 : w7.cell? ⟨pe, 1, none⟩ = some (.int .i64 c) := by rw [cell_of_row _ _ _ _ _ _ G10.out.ev]; rfl
          have d2 : w7.cell? ⟨pe, 2, none⟩ = some (.int .i64 i) := by rw [cell_of_row _ _ _ _ _ _ G10.out.ev]; rfl
          have d3 : w7.cell? ⟨pe, 3, none⟩ = some (.slice q j qc) := by rw [cell_of_row _ _ _ _ _ _ G10.out.ev]; rfl
          have d4 : w7.cell? ⟨pe, 4, none⟩ = some (.slice tp tl tc) := by rw [cell_of_row _ _ _ _ _ _ G10.out.ev]; rfl
          have HFR : Hid (∀ w', Below w0.heap.size w0 w' → w'.ownsRow w.heap.size 23 1 (.slice q j qc) j xs → FrIs w' (.agg #[.int .i64 k, .int .i64 c, .int .i64 i, .slice q j qc, .slice tp tl tc]) ⟨k, c, i, (rLs j s4).1, t⟩) := fun w' h1 h2 => ⟨q, qc, tp, tc, by simp [FrV, hjl, HTL.out], HA.out.row h2 h1 hjl, by simp only [HTL.out]; exact T5.out.1.below h1, by simp only; omega, by have := T5.out.2; have := HTL.out; simp only; omega⟩
          have HRT := rRight_any ⟨k, c, i, (rLs j s4).1, t⟩ _ w7 (HFR.out w7 G10.out.below HO10.out)
          cases hr : right ⟨k, c, i, (rLs j s4).1, t⟩ with
          | false =>
            rw [hr] at HRT
            have HR : Hid (right ⟨k, c, i, (rLs j s4).1, t⟩ = false) := hr
            clear hr
            have HR7 : ∀ W, W = w7 → Calls Try.prog 13 #[.agg #[.int .i64 k, .int .i64 c, .int .i64 i, .slice q j qc, .slice tp tl tc]] W fun e w' => e = .returned (.bool false) ∧ Hid (Rg w0 w w' pe pr (.slice sq ln sc) l s6 #[.int .i64 k, .int .i64 c, .int .i64 i, .slice q j qc, .slice tp tl tc]) ∧ Hid (w'.ownsRow w.heap.size 23 1 (.slice q j qc) j xs) ∧ Hid (w'.heap[w0.heap.size]? = some (.cells z5 28 (0, 0))) ∧ w'.cell? ⟨w0.heap.size, 0, none⟩ = some (.int .i64 0) ∧ w'.frozen? ⟨w0.heap.size, 0, none⟩ = false ∧ w'.cell? ⟨w0.heap.size, 1, none⟩ = some (.int .i64 0) ∧ w'.frozen? ⟨w0.heap.size, 1, none⟩ = false ∧ w'.cell? ⟨w0.heap.size, 2, none⟩ = some (.int .i64 0) ∧ w'.frozen? ⟨w0.heap.size, 2, none⟩ = false ∧ w'.cell? ⟨w0.heap.size, 3, none⟩ = some (.slice none 0 0) ∧ w'.frozen? ⟨w0.heap.size, 3, none⟩ = false ∧ w'.cell? ⟨w0.heap.size, 4, none⟩ = some (.slice none 0 0) ∧ w'.frozen? ⟨w0.heap.size, 4, none⟩ = false := by
              rintro W rfl
              refine HRT.mono ?_
              rintro e w' ⟨rfl, h7⟩
              have D7 := G10.out.up h7
              have hr2 := HRB.out w' D7.on
              have ev7 := D7.ev
              refine ⟨rfl, D7, own_below HO10.out h7, hr2, ?_, frozen_of_row _ _ _ _ _ hr2, ?_, frozen_of_row _ _ _ _ _ hr2, ?_, frozen_of_row _ _ _ _ _ hr2, ?_, frozen_of_row _ _ _ _ _ hr2, ?_, frozen_of_row _ _ _ _ _ hr2⟩
              · rw [cell_of_row _ _ _ _ _ _ hr2]; rfl
              · rw [cell_of_row _ _ _ _ _ _ hr2]; rfl
              · rw [cell_of_row _ _ _ _ _ _ hr2]; rfl
              · rw [cell_of_row _ _ _ _ _ _ hr2]; rfl
              · rw [cell_of_row _ _ _ _ _ _ hr2]; rfl
            clear HRT
            go_wp2_with (first | (go_at_call 13; refine (HR7 _ rfl).mono ?_; rintro e w8 ⟨rfl, D10, O10, RB10, p0, r0, p1, r1, p2, r2, p3, r3, p4, r4⟩))
            refine bodyPost_ret (results_row2 rfl _ _ w0.heap.size 28 _ (0, 0) _ rfl (row5 RB10.out _ _ _ _ _) Try.underlying28 rfl (by kernel_rfl)) rfl ?_
            exact HNO.out _ (read_no2 HD HR.out) (bel5 D10.out.below (Nat.le_refl _) _ _ _ _ _)
          | true =>
            rw [hr] at HRT
            have HR : Hid (right ⟨k, c, i, (rLs j s4).1, t⟩ = true) := hr
            clear hr
            have HR7 : ∀ W, W = w7 → Calls Try.prog 13 #[.agg #[.int .i64 k, .int .i64 c, .int .i64 i, .slice q j qc, .slice tp tl tc]] W fun e w' => e = .returned (.bool true) ∧ Hid (Rg w0 w w' pe pr (.slice sq ln sc) l s6 #[.int .i64 k, .int .i64 c, .int .i64 i, .slice q j qc, .slice tp tl tc]) ∧ Hid (w'.ownsRow w.heap.size 23 1 (.slice q j qc) j xs) ∧ Hid (w'.heap[w0.heap.size]? = some (.cells z5 28 (0, 0))) ∧ w'.cell? ⟨w0.heap.size, 0, none⟩ = some (.int .i64 0) ∧ w'.frozen? ⟨w0.heap.size, 0, none⟩ = false ∧ w'.cell? ⟨w0.heap.size, 1, none⟩ = some (.int .i64 0) ∧ w'.frozen? ⟨w0.heap.size, 1, none⟩ = false ∧ w'.cell? ⟨w0.heap.size, 2, none⟩ = some (.int .i64 0) ∧ w'.frozen? ⟨w0.heap.size, 2, none⟩ = false ∧ w'.cell? ⟨w0.heap.size, 3, none⟩ = some (.slice none 0 0) ∧ w'.frozen? ⟨w0.heap.size, 3, none⟩ = false ∧ w'.cell? ⟨w0.heap.size, 4, none⟩ = some (.slice none 0 0) ∧ w'.frozen? ⟨w0.heap.size, 4, none⟩ = false ∧ w'.cell? ⟨pe, 0, none⟩ = some (.int .i64 k) ∧ w'.cell? ⟨pe, 1, none⟩ = some (.int .i64 c) ∧ w'.cell? ⟨pe, 2, none⟩ = some (.int .i64 i) ∧ w'.cell? ⟨pe, 3, none⟩ = some (.slice q j qc) ∧ w'.cell? ⟨pe, 4, none⟩ = some (.slice tp tl tc) := by
              rintro W rfl
              refine HRT.mono ?_
              rintro e w' ⟨rfl, h7⟩
              have D7 := G10.out.up h7
              have hr2 := HRB.out w' D7.on
              have ev7 := D7.ev
              refine ⟨rfl, D7, own_below HO10.out h7, hr2, ?_, frozen_of_row _ _ _ _ _ hr2, ?_, frozen_of_row _ _ _ _ _ hr2, ?_, frozen_of_row _ _ _ _ _ hr2, ?_, frozen_of_row _ _ _ _ _ hr2, ?_, frozen_of_row _ _ _ _ _ hr2, ?_, ?_, ?_, ?_, ?_⟩
              · rw [cell_of_row _ _ _ _ _ _ hr2]; rfl
              · rw [cell_of_row _ _ _ _ _ _ hr2]; rfl
              · rw [cell_of_row _ _ _ _ _ _ hr2]; rfl
              · rw [cell_of_row _ _ _ _ _ _ hr2]; rfl
              · rw [cell_of_row _ _ _ _ _ _ hr2]; rfl
              · rw [cell_of_row _ _ _ _ _ _ ev7]; rfl
              · rw [cell_of_row _ _ _ _ _ _ ev7]; rfl
              · rw [cell_of_row _ _ _ _ _ _ ev7]; rfl
              · rw [cell_of_row _ _ _ _ _ _ ev7]; rfl
              · rw [cell_of_row _ _ _ _ _ _ ev7]; rfl
            clear HRT
            go_wp2_with (first | (go_at_call 13; refine (HR7 _ rfl).mono ?_; rintro e w8 ⟨rfl, D10, O10, RB10, p0, r0, p1, r1, p2, r2, p3, r3, p4, r4, z0, z1, z2, z3, z4⟩))
            refine bodyPost_ret (results_row2 rfl _ _ w0.heap.size 28 _ (0, 0) _ rfl (row5 RB10.out _ _ _ _ _) Try.underlying28 rfl (by kernel_rfl)) rfl ?_
            exact HYES.out _ _ _ (read_yes HD HEN.out HR.out) (bel5 D10.out.below (Nat.le_refl _) _ _ _ _ _) (HFR.out _ (bel5 D10.out.below (Nat.le_refl _) _ _ _ _ _) (own_only O10.out (only5 _ _ _ _ _ _ _) (own_off O10.out (by have := HLT.out; simp; omega))))
      | false =>
        rw [hbad] at rb
        clear hbad HYES HNO HEND
        obtain ⟨tt, s', HT⟩ : ∃ tt s', Hid (rT 1 4096 (rLs j s4).2 = (tt, s')) := ⟨_, _, rfl⟩
        have HNX : Hid (rLs (j + 1) s4 = ((rLs j s4).1 ++ [tt], s')) := by
          show _ = _
          rw [rLs, HT.out]
        obtain ⟨wj, sj, HWJ⟩ : ∃ wj sj, Hid (rLs j s4 = (wj, sj)) := ⟨_, _, rfl⟩
        rw [HWJ.out] at HG HA HT HNX
        simp only at HG HA HT HNX
        have HBS : Hid (∀ x ∈ rotB pr pe (.slice q j qc), x < wr.heap.size) := by
          intro x hx
          have h8 := HLT.out
          have h9 := HG.out.on.size
          unfold rotB at hx
          rcases List.mem_cons.1 hx with rfl | hx
          · omega
          · rcases List.mem_cons.1 hx with rfl | hx
            · omega
            · exact (HO.out.lt x (by simpa using hx)).2
        have HR0 : Hid (∀ x u, Below wr.heap.size wr u → RoR w0 w pe pr (.slice sq ln sc) l (fun x => #[.int .i64 k, .int .i64 c, .int .i64 i, x, .slice none 0 0]) (.slice q j qc) sj s' j xs wj (wj ++ [tt]) 0 x u) := fun x u hb => roR_below 0 x wr u hb ⟨HG.out, HO.out, HA.out⟩
        have HLB : Hid (w.heap.size ≤ wr.heap.size) := HG.out.on.size
        clear HG HO HA
        go_wp2_with fail
        refine wp_region_sa (RoV w0 pr pe (.slice q j qc) tt) (fun u u' => Only (rotB pr pe (.slice q j qc)) u u') (RoS (RoR w0 w pe pr (.slice sq ln sc) l (fun x => #[.int .i64 k, .int .i64 c, .int .i64 i, x, .slice none 0 0]) (.slice q j qc) sj s' j xs wj (wj ++ [tt]))) (by kernel_rfl) (only_drew _ _) (only_trans _) RoV.kept (by kernel_rfl) (ro_start (fun x => HR0.out x _ ⟨rfl, rfl, rfl, Nat.le_refl _, fun _ _ => rfl⟩)) ?_ ?_
        · intro i2 o a' w' f hi inv hS hfi hfw hpre
          have ho : Only (rotB pr pe (.slice q j qc)) wr w' := inv.grow
          have hlt : i2 < 8 := (Array.getElem?_eq_some_iff.1 hi).1
          obtain rfl|rfl|rfl|rfl|rfl|rfl|rfl|rfl : i2 = 0 ∨ i2 = 1 ∨ i2 = 2 ∨ i2 = 3 ∨ i2 = 4 ∨ i2 = 5 ∨ i2 = 6 ∨ i2 = 7 := by omega
          · obtain rfl := Option.some.inj hi
            have h0 : a'.tmps.getD 5 undef = .pointer (some ⟨pe, 0, none⟩) := by rw [inv.old 5 (notDst_spec (by kernel_rfl))]; rfl
            exact ro_quiet _ rfl rfl (fa_run 28 3 5 pe rfl h0 (fa28_3 pe)) (Below.refl _ _) (by decide) (by decide) hS roR_below rfl
          · obtain rfl := Option.some.inj hi
            have h0 : a'.tmps.getD 38 undef = _ := pre_of hpre 0 38 (by kernel_rfl) (by kernel_rfl)
            obtain ⟨k, hk, hR⟩ := ro_early hS hfi
            have hc : w'.cell? ⟨pe, 3, none⟩ = some (.slice q j qc) := by rw [cell_of_row _ _ _ _ _ _ (roR_row hk hR)]; rfl
            exact ro_quiet _ rfl rfl (load_run 22 38 pe 3 _ rfl h0 (ld22s hc)) (Below.refl _ _) (by decide) (by decide) hS roR_below rfl
          · obtain rfl := Option.some.inj hi
            exact ro_quiet _ rfl rfl rfl (Below.refl _ _) (by decide) (by decide) hS roR_below (by show a'.tmps.getD 4 undef = _; rw [inv.old 4 (notDst_spec (by kernel_rfl))]; rfl)
          · obtain rfl := Option.some.inj hi
            have h0 : a'.tmps.getD 40 undef = _ := pre_of hpre 2 40 (by kernel_rfl) (by kernel_rfl)
            refine ro_call (k := 0) 29 #[.pointer (some ⟨pr, 0, none⟩), .int .i64 1, .int .i64 4096] rfl rfl (fn_run 29 40 _ _ _ _ _ rfl h0 rfl rfl (call29 _ _ _ _)) rfl hfi (fun c h _ => absurd rfl h) (by decide) (by decide) hS (fun hR => ?_)
            exact (dT hR.1 HT).mono (by rintro e u ⟨tp, tc, rfl, T, d, o'⟩; exact ⟨_, rfl, o'.out.more (by simp [rotB]), ⟨d.out, own_only hR.2.1 o'.out (own_off hR.2.1 (by have := HLT.out; simp; omega)), hR.2.2⟩, tp, tc, rfl, T.out.1⟩)
          · obtain rfl := Option.some.inj hi
            obtain ⟨tp, tc, h0, hT⟩ := pre_of hpre 3 41 (by kernel_rfl) (by kernel_rfl)
            exact ro_quiet _ rfl rfl (bs_run 41 tp _ tc rfl h0) (bel_alloc (Nat.le_refl _) _) (by decide) (by decide) hS roR_below ⟨w'.heap.size, tp, tc, rfl, heap_alloc_new _ _, hT, fun e => by have := HBS.out _ e; have := ho.size; omega⟩
          · have hop : o.op = .call { callee := .builtin .append, args := #[.tmp 39, .tmp 42], argTypes := #[22, 22] } := by rw [← Option.some.inj hi]; rfl
            have hwd : ∀ y, Region.wanted o y = true := by intro y; rw [← Option.some.inj hi]; rfl
            have hdst : o.dst = some 43 := by rw [← Option.some.inj hi]; rfl
            rw [← Option.some.inj hi] at hpre hfw
            have h0 : a'.tmps.getD 39 undef = _ := pre_of hpre 1 39 (by kernel_rfl) (by kernel_rfl)
            obtain ⟨g, tp, tc, h1, hg, hT, _⟩ := pre_of hpre 4 42 (by kernel_rfl) (by kernel_rfl)
            have h5 := been_of hfw 3 (by kernel_rfl)
            have hR := ro_two hS hfi h5
            have hbs : w.heap.size ≤ w'.heap.size := hR.1.on.size
            obtain ⟨v, w'', hr, k1, k2⟩ := app_run 39 42 w.heap.size j _ xs g tp _ tc hop h0 h1 hR.2.1 hg (by omega) hbs
            have hbl := below_append hR.2.1 k2 hbs
            have htl : tt.length ≤ 100000 := rT_small (by decide) HT.out
            exact ro_app v hi (hwd _) hr (Only.of_grown k2 (fun x hx => by unfold rotB; rw [hx]; simp)) hfi h5 (been_of hfw 1 (by kernel_rfl)) hdst (by have e58 : a'.tmps.size = 58 := inv.size; omega) hS ⟨hR.1.grow ⟨HLT.out.1, HLT.out.2.1⟩ k2 (fun g hg => (hR.2.1.lt g hg).1), _, k1, hR.2.2.snoc hT htl⟩ trivial
          · obtain rfl := Option.some.inj hi
            have h0 : a'.tmps.getD 5 undef = .pointer (some ⟨pe, 0, none⟩) := by rw [inv.old 5 (notDst_spec (by kernel_rfl))]; rfl
            exact ro_quiet _ rfl rfl (fa_run 28 3 5 pe rfl h0 (fa28_3 pe)) (Below.refl _ _) (by decide) (by decide) hS roR_below rfl
          · obtain rfl := Option.some.inj hi
            have h0 : a'.tmps.getD 44 undef = _ := pre_of hpre 6 44 (by kernel_rfl) (by kernel_rfl)
            have h8 := been_of hfw 5 (by kernel_rfl)
            obtain ⟨r1, xs2, r3, r4⟩ := ro_three hS hfi h8
            obtain ⟨q2, c2, e2⟩ := own_slice r3
            have hc : w'.cell? ⟨pe, 3, none⟩ = some (.slice q j qc) := by rw [cell_of_row _ _ _ _ _ _ r1.ev]; rfl
            have hon : Only [pe] w' (w'.setCell ⟨pe, 3, none⟩ (.slice q2 (j + 1) c2)) := Only.setCell _ _ _ (by simp)
            refine ro_sto rfl rfl (st_run 44 43 pe 3 q2 (j + 1) c2 _ rfl h0 e2 hc (frozen_of_row _ _ _ _ _ r1.ev)) (hon.more (by simp [rotB])) hfi h8 rfl hS ⟨.slice q2 (j + 1) c2, xs2, r1.put 3 _ (heap_setCell_same _ pe 3 _ 28 _ r1.ev), ?_, r4⟩ trivial
            rw [e2] at r3
            exact own_only r3 hon (own_off r3 (by have := HLT.out; simp; omega))
        · intro a' w3 f inv hS hall _
          have hdf : a'.defers = [] := inv.defers
          have e := frame_of [38, 39, 40, 41, 42, 43, 44] inv.size (fun t ht => inv.old t (dstsIn_spec (ts := [38, 39, 40, 41, 42, 43, 44]) (by kernel_rfl) t ht))
          have hR : ∃ v xs2, Rg w0 w w3 pe pr (.slice sq ln sc) l s' ((fun x => #[.int .i64 k, .int .i64 c, .int .i64 i, x, .slice none 0 0]) v) ∧ _ := hS.2.done (fun c hc => hall c (show c < 8 by simp at hc; omega))
          have HN : Hid (∃ q qc xs, Rg w0 w w3 pe pr (.slice sq ln sc) l (rLs (j + 1) s4).2 ((fun x => #[.int .i64 k, .int .i64 c, .int .i64 i, x, .slice none 0 0]) (.slice q (j + 1) qc)) ∧ w3.ownsRow w.heap.size 23 1 (.slice q (j + 1) qc) (j + 1) xs ∧ AreS w0 xs (rLs (j + 1) s4).1) := by
            obtain ⟨v, xs2, r1, r3, r4⟩ := hR
            obtain ⟨q2, c2, rfl⟩ := own_slice r3
            refine ⟨q2, c2, xs2, ?_, r3, ?_⟩
            · rw [HNX.out]; exact r1
            · rw [HNX.out]; exact r4
          clear inv hall hS hR HR0 HBS HT HNX HWJ HLB
          obtain ⟨tmps, defers⟩ := a'
          obtain rfl : defers = [] := hdf
          replace e : tmps = List.foldl (fun G t => G.setIfInBounds t (tmps.getD t undef)) _ [38, 39, 40, 41, 42, 43, 44] := e
          simp only [List.foldl_cons, List.foldl_nil] at e
          generalize tmps.getD 38 undef = x38 at *
          generalize tmps.getD 39 undef = x39 at *
          generalize tmps.getD 40 undef = x40 at *
          generalize tmps.getD 41 undef = x41 at *
          generalize tmps.getD 42 undef = x42 at *
          generalize tmps.getD 43 undef = x43 at *
          generalize tmps.getD 44 undef = x44 at *
          simp only [List.setIfInBounds_toArray, List.set_cons_succ, List.set_cons_zero] at e
          subst e
          go_wp2_with fail
          refine ⟨⟨j + 1, by omega, by simp, HN⟩, ?_⟩
          simp only [intOf]
          omega
    · obtain rfl : j = cn := by omega
      have j1 : ¬ (j : Int) < (j : Int) := by omega
      clear rb
      go_wp2_with fail
      obtain ⟨t, s6, HT⟩ : ∃ t s6, Hid (rT 0 32 (rLs j s4).2 = (t, s6)) := ⟨_, _, rfl⟩
      have HD := HEND.out j t s6 hj (.inl rfl) HT.out
      have hjl : (rLs j s4).1.length = j := rLs_length j s4
      refine (dT HG HT).mono ?_
      rintro e u5 ⟨tp, tc, rfl, T5, G8, O5⟩
      have HO5 : Hid (u5.ownsRow w.heap.size 23 1 (.slice q j qc) j xs) := own_only HO.out O5.out (own_off HO.out (by have := HLT.out; simp; omega))
      obtain ⟨tl, HTL⟩ : ∃ tl, Hid (t.length = tl) := ⟨_, rfl⟩
      rw [HTL.out] at T5 ⊢
      have x4 : u5.cell? ⟨pe, 4, none⟩ = some (.slice none 0 0) := by rw [cell_of_row _ _ _ _ _ _ G8.out.ev]; rfl
      have y4 : u5.frozen? ⟨pe, 4, none⟩ = false := frozen_of_row _ _ _ _ _ G8.out.ev
      have G9 : Hid (Rg w0 w (u5.setCell ⟨pe, 4, none⟩ (.slice tp tl tc)) pe pr (.slice sq ln sc) l s6 #[.int .i64 k, .int .i64 c, .int .i64 i, .slice q j qc, .slice tp tl tc]) := G8.out.put 4 _ (heap_setCell_same _ pe 4 _ 28 _ G8.out.ev)
      have HO9 : Hid ((u5.setCell ⟨pe, 4, none⟩ (.slice tp tl tc)).ownsRow w.heap.size 23 1 (.slice q j qc) j xs) := own_only HO5.out (Only.setCell _ _ _ (by simp) : Only [pe] _ _) (own_off HO5.out (by have := HLT.out; simp; omega))
      clear HG HO HO5 G8 O5 HT
      go_wp2_with fail
      clear x4 y4
      generalize u5.setCell ⟨pe, 4, none⟩ (.slice tp tl tc) = w6 at *
      obtain ⟨en, HEN⟩ : ∃ en, Hid ((!s6.2 && decide (s6.1 = [])) = en) := ⟨_, rfl⟩
      have HE30 := dE G9.out
      rw [HEN.out] at HE30
      refine HE30.mono ?_
      rintro e _ ⟨rfl, nd, rfl⟩
      have G10 : Hid (Rg w0 w (w6.drewN nd) pe pr (.slice sq ln sc) l s6 #[.int .i64 k, .int .i64 c, .int .i64 i, .slice q j qc, .slice tp tl tc]) := G9.out.up (C8.below_drewN nd _ _)
      have HO10 : Hid ((w6.drewN nd).ownsRow w.heap.size 23 1 (.slice q j qc) j xs) := own_below HO9.out (C8.below_drewN nd _ _)
      clear HE30 G9 HO9
      generalize w6.drewN nd = w7 at *
      have hrb := HRB.out w7 G10.out.on
      have x0 : w7.cell? ⟨w0.heap.size, 0, none⟩ = some (.int .i64 0) := by rw [cell_of_row _ _ _ _ _ _ hrb]; rfl
      have y0 : w7.frozen? ⟨w0.heap.size, 0, none⟩ = false := frozen_of_row _ _ _ _ _ hrb
      have x1 : w7.cell? ⟨w0.heap.size, 1, none⟩ = some (.int .i64 0) := by rw [cell_of_row _ _ _ _ _ _ hrb]; rfl
      have y1 : w7.frozen? ⟨w0.heap.size, 1, none⟩ = false := frozen_of_row _ _ _ _ _ hrb
      have x2 : w7.cell? ⟨w0.heap.size, 2, none⟩ = some (.int .i64 0) := by rw [cell_of_row _ _ _ _ _ _ hrb]; rfl
      have y2 : w7.frozen? ⟨w0.heap.size, 2, none⟩ = false := frozen_of_row _ _ _ _ _ hrb
      have x3 : w7.cell? ⟨w0.heap.size, 3, none⟩ = some (.slice none 0 0) := by rw [cell_of_row _ _ _ _ _ _ hrb]; rfl
      have y3 : w7.frozen? ⟨w0.heap.size, 3, none⟩ = false := frozen_of_row _ _ _ _ _ hrb
      have x4 : w7.cell? ⟨w0.heap.size, 4, none⟩ = some (.slice none 0 0) := by rw [cell_of_row _ _ _ _ _ _ hrb]; rfl
      have y4 : w7.frozen? ⟨w0.heap.size, 4, none⟩ = false := frozen_of_row _ _ _ _ _ hrb
      cases en with
      | false =>
        clear HO10 T5
        go_wp2_with fail
        refine bodyPost_ret (results_row2 rfl _ _ w0.heap.size 28 _ (0, 0) _ rfl (row5 hrb _ _ _ _ _) Try.underlying28 rfl (by kernel_rfl)) rfl ?_
        exact HNO.out _ (read_no1 HD HEN.out) (bel5 G10.out.below (Nat.le_refl _) _ _ _ _ _)
      | true =>
        have d0 : w7.cell? ⟨pe, 0, none⟩ = some (.int .i64 k) := by rw [cell_of_row _ _ _ _ _ _ G10.out.ev]; rfl
        have d1 : w7.cell? ⟨pe, 1, none⟩ = some (.int .i64 c) := by rw [cell_of_row _ _ _ _ _ _ G10.out.ev]; rfl
        have d2 : w7.cell? ⟨pe, 2, none⟩ = some (.int .i64 i) := by rw [cell_of_row _ _ _ _ _ _ G10.out.ev]; rfl
        have d3 : w7.cell? ⟨pe, 3, none⟩ = some (.slice q j qc) := by rw [cell_of_row _ _ _ _ _ _ G10.out.ev]; rfl
        have d4 : w7.cell? ⟨pe, 4, none⟩ = some (.slice tp tl tc) := by rw [cell_of_row _ _ _ _ _ _ G10.out.ev]; rfl
        have HFR : Hid (∀ w', Below w0.heap.size w0 w' → w'.ownsRow w.heap.size 23 1 (.slice q j qc) j xs → FrIs w' (.agg #[.int .i64 k, .int .i64 c, .int .i64 i, .slice q j qc, .slice tp tl tc]) ⟨k, c, i, (rLs j s4).1, t⟩) := fun w' h1 h2 => ⟨q, qc, tp, tc, by simp [FrV, hjl, HTL.out], HA.out.row h2 h1 hjl, by simp only [HTL.out]; exact T5.out.1.below h1, by simp only; omega, by have := T5.out.2; have := HTL.out; simp only; omega⟩
        have HRT := rRight_any ⟨k, c, i, (rLs j s4).1, t⟩ _ w7 (HFR.out w7 G10.out.below HO10.out)
        cases hr : right ⟨k, c, i, (rLs j s4).1, t⟩ with
        | false =>
          rw [hr] at HRT
          have HR : Hid (right ⟨k, c, i, (rLs j s4).1, t⟩ = false) := hr
          clear hr
          have HR7 : ∀ W, W = w7 → Calls Try.prog 13 #[.agg #[.int .i64 k, .int .i64 c, .int .i64 i, .slice q j qc, .slice tp tl tc]] W fun e w' => e = .returned (.bool false) ∧ Hid (Rg w0 w w' pe pr (.slice sq ln sc) l s6 #[.int .i64 k, .int .i64 c, .int .i64 i, .slice q j qc, .slice tp tl tc]) ∧ Hid (w'.ownsRow w.heap.size 23 1 (.slice q j qc) j xs) ∧ Hid (w'.heap[w0.heap.size]? = some (.cells z5 28 (0, 0))) ∧ w'.cell? ⟨w0.heap.size, 0, none⟩ = some (.int .i64 0) ∧ w'.frozen? ⟨w0.heap.size, 0, none⟩ = false ∧ w'.cell? ⟨w0.heap.size, 1, none⟩ = some (.int .i64 0) ∧ w'.frozen? ⟨w0.heap.size, 1, none⟩ = false ∧ w'.cell? ⟨w0.heap.size, 2, none⟩ = some (.int .i64 0) ∧ w'.frozen? ⟨w0.heap.size, 2, none⟩ = false ∧ w'.cell? ⟨w0.heap.size, 3, none⟩ = some (.slice none 0 0) ∧ w'.frozen? ⟨w0.heap.size, 3, none⟩ = false ∧ w'.cell? ⟨w0.heap.size, 4, none⟩ = some (.slice none 0 0) ∧ w'.frozen? ⟨w0.heap.size, 4, none⟩ = false := by
            rintro W rfl
            refine HRT.mono ?_
            rintro e w' ⟨rfl, h7⟩
            have D7 := G10.out.up h7
            have hr2 := HRB.out w' D7.on
            have ev7 := D7.ev
            refine ⟨rfl, D7, own_below HO10.out h7, hr2, ?_, frozen_of_row _ _ _ _ _ hr2, ?_, frozen_of_row _ _ _ _ _ hr2, ?_, frozen_of_row _ _ _ _ _ hr2, ?_, frozen_of_row _ _ _ _ _ hr2, ?_, frozen_of_row _ _ _ _ _ hr2⟩
            · rw [cell_of_row _ _ _ _ _ _ hr2]; rfl
            · rw [cell_of_row _ _ _ _ _ _ hr2]; rfl
            · rw [cell_of_row _ _ _ _ _ _ hr2]; rfl
            · rw [cell_of_row _ _ _ _ _ _ hr2]; rfl
            · rw [cell_of_row _ _ _ _ _ _ hr2]; rfl
          clear HRT
          go_wp2_with (first | (go_at_call 13; refine (HR7 _ rfl).mono ?_; rintro e w8 ⟨rfl, D10, O10, RB10, p0, r0, p1, r1, p2, r2, p3, r3, p4, r4⟩))
          refine bodyPost_ret (results_row2 rfl _ _ w0.heap.size 28 _ (0, 0) _ rfl (row5 RB10.out _ _ _ _ _) Try.underlying28 rfl (by kernel_rfl)) rfl ?_
          exact HNO.out _ (read_no2 HD HR.out) (bel5 D10.out.below (Nat.le_refl _) _ _ _ _ _)
        | true =>
          rw [hr] at HRT
          have HR : Hid (right ⟨k, c, i, (rLs j s4).1, t⟩ = true) := hr
          clear hr
          have HR7 : ∀ W, W = w7 → Calls Try.prog 13 #[.agg #[.int .i64 k, .int .i64 c, .int .i64 i, .slice q j qc, .slice tp tl tc]] W fun e w' => e = .returned (.bool true) ∧ Hid (Rg w0 w w' pe pr (.slice sq ln sc) l s6 #[.int .i64 k, .int .i64 c, .int .i64 i, .slice q j qc, .slice tp tl tc]) ∧ Hid (w'.ownsRow w.heap.size 23 1 (.slice q j qc) j xs) ∧ Hid (w'.heap[w0.heap.size]? = some (.cells z5 28 (0, 0))) ∧ w'.cell? ⟨w0.heap.size, 0, none⟩ = some (.int .i64 0) ∧ w'.frozen? ⟨w0.heap.size, 0, none⟩ = false ∧ w'.cell? ⟨w0.heap.size, 1, none⟩ = some (.int .i64 0) ∧ w'.frozen? ⟨w0.heap.size, 1, none⟩ = false ∧ w'.cell? ⟨w0.heap.size, 2, none⟩ = some (.int .i64 0) ∧ w'.frozen? ⟨w0.heap.size, 2, none⟩ = false ∧ w'.cell? ⟨w0.heap.size, 3, none⟩ = some (.slice none 0 0) ∧ w'.frozen? ⟨w0.heap.size, 3, none⟩ = false ∧ w'.cell? ⟨w0.heap.size, 4, none⟩ = some (.slice none 0 0) ∧ w'.frozen? ⟨w0.heap.size, 4, none⟩ = false ∧ w'.cell? ⟨pe, 0, none⟩ = some (.int .i64 k) ∧ w'.cell? ⟨pe, 1, none⟩ = some (.int .i64 c) ∧ w'.cell? ⟨pe, 2, none⟩ = some (.int .i64 i) ∧ w'.cell? ⟨pe, 3, none⟩ = some (.slice q j qc) ∧ w'.cell? ⟨pe, 4, none⟩ = some (.slice tp tl tc) := by
            rintro W rfl
            refine HRT.mono ?_
            rintro e w' ⟨rfl, h7⟩
            have D7 := G10.out.up h7
            have hr2 := HRB.out w' D7.on
            have ev7 := D7.ev
            refine ⟨rfl, D7, own_below HO10.out h7, hr2, ?_, frozen_of_row _ _ _ _ _ hr2, ?_, frozen_of_row _ _ _ _ _ hr2, ?_, frozen_of_row _ _ _ _ _ hr2, ?_, frozen_of_row _ _ _ _ _ hr2, ?_, frozen_of_row _ _ _ _ _ hr2, ?_, ?_, ?_, ?_, ?_⟩
            · rw [cell_of_row _ _ _ _ _ _ hr2]; rfl
            · rw [cell_of_row _ _ _ _ _ _ hr2]; rfl
            · rw [cell_of_row _ _ _ _ _ _ hr2]; rfl
            · rw [cell_of_row _ _ _ _ _ _ hr2]; rfl
            · rw [cell_of_row _ _ _ _ _ _ hr2]; rfl
            · rw [cell_of_row _ _ _ _ _ _ ev7]; rfl
            · rw [cell_of_row _ _ _ _ _ _ ev7]; rfl
            · rw [cell_of_row _ _ _ _ _ _ ev7]; rfl
            · rw [cell_of_row _ _ _ _ _ _ ev7]; rfl
            · rw [cell_of_row _ _ _ _ _ _ ev7]; rfl
          clear HRT
          go_wp2_with (first | (go_at_call 13; refine (HR7 _ rfl).mono ?_; rintro e w8 ⟨rfl, D10, O10, RB10, p0, r0, p1, r1, p2, r2, p3, r3, p4, r4, z0, z1, z2, z3, z4⟩))
          refine bodyPost_ret (results_row2 rfl _ _ w0.heap.size 28 _ (0, 0) _ rfl (row5 RB10.out _ _ _ _ _) Try.underlying28 rfl (by kernel_rfl)) rfl ?_
          exact HYES.out _ _ _ (read_yes HD HEN.out HR.out) (bel5 D10.out.below (Nat.le_refl _) _ _ _ _ _) (HFR.out _ (bel5 D10.out.below (Nat.le_refl _) _ _ _ _ _) (own_only O10.out (only5 _ _ _ _ _ _ _) (own_off O10.out (by have := HLT.out; simp; omega))))
theorem rRead_any (sv : Value) (l : List Nat) (w : World) (hs : Src w sv l) :
    Calls Try.prog 17 #[sv] w fun e w' => ReadSays l w e w' := by
  by_cases hl : l.length ≤ 32768
  · obtain ⟨k, s1, H1⟩ : ∃ k s1, rN 1 4 (l, false) = (k, s1) := ⟨_, _, rfl⟩
    obtain ⟨c, s2, H2⟩ : ∃ c s2, rN 1 1099511627776 s1 = (c, s2) := ⟨_, _, rfl⟩
    obtain ⟨i, s3, H3⟩ : ∃ i s3, rN 0 64 s2 = (i, s3) := ⟨_, _, rfl⟩
    obtain ⟨n, s4, H4⟩ : ∃ n s4, rN 0 8 s3 = (n, s4) := ⟨_, _, rfl⟩
    obtain ⟨cn, rfl, hcn⟩ := rN_count2 H4
    exact read_walk sv l w hs hl k c i s1 s2 s3 s4 cn H1 H2 H3 H4 hcn
  · exact read_big sv l w hs (by omega)
end Go.Proofs.Ytmllecdbedighaa.F17
