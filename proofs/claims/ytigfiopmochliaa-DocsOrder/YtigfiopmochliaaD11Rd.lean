/- The contract of the document's Apply: of a drop; of any right entry. -/
import Derived.Test.YtigfiopmochliaaD11Ra
namespace Go.Proofs.Ytigfiopmochliaa.D11
open Go.RowKit C8 E9
/-- How a drop goes on. -/
def DelAt (k : List Nat) (L : Col) (j : Nat) (there : Bool) (O : Col) : Prop :=
  O ++ del k (L.drop j) = del k L ∧ there = (get k (L.take j)).isSome ∧ (there = true → ∀ p ∈ L.drop j, p.1 ≠ k)
theorem del_cons (k : List Nat) (p : List Nat × List Nat) (r : Col) : del k (p :: r) = if p.1 = k then del k r else p :: del k r := by
  unfold del
  rw [List.filter_cons]
  by_cases h : p.1 = k <;> simp [h]
theorem get_snoc (k : List Nat) (L : Col) (p : List Nat × List Nat) : (get k (L ++ [p])).isSome = ((get k L).isSome || decide (p.1 = k)) := by
  induction L with
  | nil =>
    rw [List.nil_append, get_cons, get_nil]
    by_cases h : p.1 = k <;> simp [h]
  | cons q r ih =>
    rw [List.cons_append, get_cons, get_cons]
    by_cases h : q.1 = k
    · simp [h]
    · simp only [h, if_false]
      exact ih
theorem delAt_start (k : List Nat) (L : Col) : DelAt k L 0 false [] := ⟨rfl, rfl, fun h => (by cases h)⟩
section
variable {k : List Nat} {L O : Col} {j : Nat} {th : Bool}
theorem delAt_other (h : DelAt k L j th O) (hj : j < L.length) (hne : ¬ L[j].1 = k) : DelAt k L (j + 1) th (O ++ [L[j]]) := by
  refine ⟨?_, ?_, fun e p hp => h.2.2 e p (by rw [drop_at hj]; exact List.mem_cons_of_mem _ hp)⟩
  · have := h.1
    rw [drop_at hj, del_cons, if_neg hne] at this
    simpa using this
  · rw [List.take_succ_eq_append_getElem hj, get_snoc, ← h.2.1, decide_eq_false hne, Bool.or_false]
theorem delAt_same (hL : Ok L) (h : DelAt k L j th O) (hj : j < L.length) (he : L[j].1 = k) : DelAt k L (j + 1) true O := by
  refine ⟨?_, ?_, fun _ p hp e => ?_⟩
  · have := h.1
    rw [drop_at hj, del_cons, if_pos he] at this
    exact this
  · rw [List.take_succ_eq_append_getElem hj, get_snoc, decide_eq_true he, Bool.or_true]
  · have := drop_lt hL hj p hp
    rw [e, he] at this
    exact lt_irr _ this
theorem delAt_len (h : DelAt k L j th O) : O.length ≤ L.length + 1 := by
  have h1 := congrArg List.length h.1
  have h2 := length_del_le k L
  rw [List.length_append] at h1
  omega
theorem delAt_end (h : DelAt k L L.length th O) : O = del k L ∧ th = (get k L).isSome := by
  have h1 := h.1
  have h2 := h.2.1
  rw [List.drop_length] at h1
  rw [List.take_length] at h2
  exact ⟨by simpa [del] using h1, h2⟩
end
set_option maxHeartbeats 8000000 in
set_option maxRecDepth 10000 in
theorem rapply_drop (w : World) (q : Option Addr) (n c : Nat) (L : Col) (a : En) (va : Value) (h : DkRow w q L) (hok : Ok L) (hn : L.length = n) (hf : n < 1000000) (ha : EnIs w va a) (hk : a.kind = 2) :
    Calls Try.prog 14 #[.slice q n c, va] w fun e w' => RaSays w (if (get a.name L).isSome = true then del a.name L else L) (if (get a.name L).isSome = true then 0 else 32) e w' := by
  obtain ⟨ep, ec, vp, vc, wq, wc, rfl, ha⟩ := ha
  have e0 : EnV a ep ec vp vc wq wc = enC a.kind a.writer a.seq ep a.name.length ec vp a.value.length vc a.who a.rights a.epoch wq a.wraps.length wc := rfl
  rw [e0]
  obtain ⟨W, HW⟩ : ∃ W, Hid (w.alloc (.cells (enC a.kind a.writer a.seq ep a.name.length ec vp a.value.length vc a.who a.rights a.epoch wq a.wraps.length wc) 36) = W) := ⟨_, rfl⟩
  have HB0 : Hid (Below w.heap.size w W) := by rw [← HW.out]; exact bel_alloc (Nat.le_refl _) _
  have HSZ : Hid (W.heap.size = w.heap.size + 1) := by
    have : W.heap.size = w.heap.size + 1 := by rw [← HW.out]; simp
    exact this
  have HCC : Hid (W.heap[w.heap.size]? = some (.cells (enC a.kind a.writer a.seq ep a.name.length ec vp a.value.length vc a.who a.rights a.epoch wq a.wraps.length wc) 36 (0, 0))) := by rw [← HW.out]; exact heap_alloc_new w _
  have HENC : Hid (∀ w', Below W.heap.size W w' → w'.heap[w.heap.size]? = some (.cells (enC a.kind a.writer a.seq ep a.name.length ec vp a.value.length vc a.who a.rights a.epoch wq a.wraps.length wc) 36 (0, 0))) := fun w' hb => (hb.block _ (by have := HSZ.out; omega)).trans HCC.out
  have HA : Hid (DkRow W q L) := h.below HB0.out
  have HOK : Hid (Ok L) := hok
  have HN : Hid (L.length = n) := hn
  have HEN : Hid (Src W (.slice ep a.name.length ec) a.name) := ha.name.below HB0.out
  have HEV : Hid (Src W (.slice vp a.value.length vc) a.value) := ha.value.below HB0.out
  have hnb : (n : Int) ≤ 1000000 := by omega
  have hn0 : (0 : Int) ≤ (n : Int) := by omega
  obtain ⟨M, x, HM⟩ : ∃ (M : Col) (x : Int), Hid ((if (get a.name L).isSome = true then del a.name L else L) = M ∧ (if (get a.name L).isSome = true then (0 : Int) else 32) = x) := ⟨_, _, rfl, rfl⟩
  rw [HM.out.1, HM.out.2]
  rw [hk] at *
  clear hk
  generalize a.name.length = n4 at *
  generalize a.value.length = n5 at *
  generalize a.wraps.length = n9 at *
  unfold enC at *
  have HC0 : Hid (∀ w', Below W.heap.size W w' → w'.cell? ⟨w.heap.size, 0, none⟩ = some (.int .i64 2)) := fun w' hb => by rw [cell_of_row _ _ _ _ _ _ (HENC.out w' hb)]; rfl
  have HC3 : Hid (∀ w', Below W.heap.size W w' → w'.cell? ⟨w.heap.size, 3, none⟩ = some (.slice ep n4 ec)) := fun w' hb => by rw [cell_of_row _ _ _ _ _ _ (HENC.out w' hb)]; rfl
  have HC4 : Hid (∀ w', Below W.heap.size W w' → w'.cell? ⟨w.heap.size, 4, none⟩ = some (.slice vp n5 vc)) := fun w' hb => by rw [cell_of_row _ _ _ _ _ _ (HENC.out w' hb)]; rfl
  clear ha h hok hn e0 HCC HENC
  go_enter Try.func14, Try.ntmps14
  go_wp2_with fail
  rw [HW.out]
  have HF : Hid (n ≤ 999999) := (by omega : n ≤ 999999)
  clear HW hf
  go_loopw [9, 6, 7, 8] (fun i v vt vd wr => ∃ j : Nat, j ≤ n ∧ i = .int .i64 j ∧ ∃ (O : Col) (th : Bool), vt = .bool th ∧ vd = .bool false ∧ Hid (Below W.heap.size W wr) ∧ Hid (Out W.heap.size W v O wr) ∧ Hid (DelAt a.name L j th O)) (fun i _ _ _ _ => n - (intOf i).toNat)
  case atStart => exact ⟨0, by omega, rfl, [], false, rfl, rfl, Below.refl _ _, Out.nil _ _ _, delAt_start _ _⟩
  case round =>
    obtain ⟨j, hj, rfl, O, th, rfl, rfl, HB, HO, HI⟩ := hrel
    by_cases hjn : j < n
    · have ja : j < L.length := by rw [HN.out]; exact hjn
      have j1 : (j : Int) < (n : Int) := by omega
      have j0 : (0 : Int) ≤ (j : Int) := by omega
      have HB2 : Hid (Below W.heap.size W wr.drew.drew) := HB.out.trans (C8.below_drewN 2 wr _)
      cases th with
      | true =>
        have hne : ¬ L[j].1 = a.name := HI.out.2.2 rfl L[j] (by rw [drop_at ja]; exact List.mem_cons_self)
        have HI2 : Hid (DelAt a.name L (j + 1) true (O ++ [L[j]])) := delAt_other HI.out ja hne
        obtain ⟨b, o, np, nc, qp, qc, rfl, k2, k3, k4, k5, k6⟩ := HA.out j ja
        have d0 := (HB.out.cell (p := ⟨b, o + j * 2, none⟩) k2).trans k3
        have d1 := (HB.out.cell (p := ⟨b, o + j * 2 + 1, none⟩) k2).trans k4
        have hc0 := HC0.out wr HB.out
        have hc3 := HC3.out wr HB.out
        have hc4 := HC4.out wr HB.out
        have hx1 := conv_src (w := wr.drew) (show Src wr _ _ from k5.below HB.out)
        have hx2 := conv_src (w := wr.drew) (show Src wr _ _ from HEN.out.below HB.out)
        have hq1 := strB_beqL k5.small HEN.out.small
        rw [decide_eq_false hne] at hq1
        have K5 : Hid (Src W (.slice np L[j].1.length nc) L[j].1) := k5
        have K6 : Hid (Src W (.slice qp L[j].2.length qc) L[j].2) := k6
        have K3 : Hid (∀ w', Below W.heap.size W w' → w'.cell? ⟨b, o + j * 2, none⟩ = some (.slice np L[j].1.length nc)) := fun w' hb => (hb.cell (p := ⟨b, o + j * 2, none⟩) k2).trans k3
        have K4 : Hid (∀ w', Below W.heap.size W w' → w'.cell? ⟨b, o + j * 2 + 1, none⟩ = some (.slice qp L[j].2.length qc)) := fun w' hb => (hb.cell (p := ⟨b, o + j * 2 + 1, none⟩) k2).trans k4
        have hol : O.length ≤ 1000000 := by have h1 := delAt_len HI.out; have h2 := HN.out; have h3 := HF.out; omega
        have HOL : Hid (O.length ≤ 1000000) := hol
        obtain ⟨oq, oc, rfl⟩ := HO.out.slice
        clear k3 k4 k5 k6 k2 HC3 HC0 hol
        generalize hs1 : strB L[j].1 = s1 at hx1 hx2 hq1
        generalize hs2 : strB a.name = s2 at hx1 hx2 hq1
        clear hs1 hs2
        generalize hpp : L[j] = pp at *
        clear hpp hne
        obtain ⟨p1, p2⟩ := pp
        simp only at K5 K6 K3 K4 d0 d1 hx1
        generalize p1.length = l1 at *
        generalize p2.length = l2 at *
        generalize hol : O.length = ol at *
        clear ja
        go_wp2_with fail
        go_region
        go_wp2_with fail
        go_region
        go_wp2_with (first | with_reducible (refine stop_builtin .append ?_))
        refine Stop.go ?_
        refine law_out (W := W) (B := W.heap.size) (w := wr.drew.drew) _ O np qp l1 nc l2 qc (p1, p2) rfl rfl rfl (HO.out.same (C8.below_drewN 2 wr _)) K5.out K6.out (by rw [hol]; exact HOL.out) (HB2.out.size) ?_
        intro q2 c2 w4 HO4 hb4
        rw [hol] at HO4
        have HB4 : Hid (Below W.heap.size W w4) := HB2.out.trans hb4
        clear hb4
        go_wp2_with fail
        refine ⟨⟨j + 1, by omega, by simp, O ++ [(p1, p2)], true, rfl, rfl, HB4, HO4, HI2.out⟩, ?_⟩
        simp only [intOf]
        omega
      | false =>
        by_cases he : L[j].1 = a.name
        · have HI2 : Hid (DelAt a.name L (j + 1) true O) := delAt_same HOK.out HI.out ja he
          obtain ⟨b, o, np, nc, qp, qc, rfl, k2, k3, k4, k5, k6⟩ := HA.out j ja
          have d0 := (HB.out.cell (p := ⟨b, o + j * 2, none⟩) k2).trans k3
          have d1 := (HB.out.cell (p := ⟨b, o + j * 2 + 1, none⟩) k2).trans k4
          have hc0 := HC0.out wr HB.out
          have hc3 := HC3.out wr HB.out
          have hc4 := HC4.out wr HB.out
          have hx1 := conv_src (w := wr.drew) (show Src wr _ _ from k5.below HB.out)
          have hx2 := conv_src (w := wr.drew) (show Src wr _ _ from HEN.out.below HB.out)
          have hq1 := strB_beqL k5.small HEN.out.small
          rw [decide_eq_true he] at hq1
          have K5 : Hid (Src W (.slice np L[j].1.length nc) L[j].1) := k5
          have K6 : Hid (Src W (.slice qp L[j].2.length qc) L[j].2) := k6
          have K3 : Hid (∀ w', Below W.heap.size W w' → w'.cell? ⟨b, o + j * 2, none⟩ = some (.slice np L[j].1.length nc)) := fun w' hb => (hb.cell (p := ⟨b, o + j * 2, none⟩) k2).trans k3
          have K4 : Hid (∀ w', Below W.heap.size W w' → w'.cell? ⟨b, o + j * 2 + 1, none⟩ = some (.slice qp L[j].2.length qc)) := fun w' hb => (hb.cell (p := ⟨b, o + j * 2 + 1, none⟩) k2).trans k4
          have hol : O.length ≤ 1000000 := by have h1 := delAt_len HI.out; have h2 := HN.out; have h3 := HF.out; omega
          have HOL : Hid (O.length ≤ 1000000) := hol
          obtain ⟨oq, oc, rfl⟩ := HO.out.slice
          clear k3 k4 k5 k6 k2 HC3 HC0 hol
          generalize hs1 : strB L[j].1 = s1 at hx1 hx2 hq1
          generalize hs2 : strB a.name = s2 at hx1 hx2 hq1
          clear hs1 hs2
          generalize hpp : L[j] = pp at *
          clear hpp he
          obtain ⟨p1, p2⟩ := pp
          simp only at K5 K6 K3 K4 d0 d1 hx1
          generalize p1.length = l1 at *
          generalize p2.length = l2 at *
          generalize hol : O.length = ol at *
          clear ja
          go_wp2_with fail
          go_region
          go_wp2_with fail
          go_region
          have HB4 : Hid (Below W.heap.size W wr.drew.drew) := HB2.out
          have HO4 : Hid (Out W.heap.size W (.slice oq ol oc) O wr.drew.drew) := HO.out.same (C8.below_drewN 2 wr _)
          go_wp2_with fail
          refine ⟨⟨j + 1, by omega, by simp, O, true, rfl, rfl, HB4, HO4, HI2.out⟩, ?_⟩
          simp only [intOf]
          omega
        · have hne : ¬ L[j].1 = a.name := he
          clear he
          have HI2 : Hid (DelAt a.name L (j + 1) false (O ++ [L[j]])) := delAt_other HI.out ja hne
          obtain ⟨b, o, np, nc, qp, qc, rfl, k2, k3, k4, k5, k6⟩ := HA.out j ja
          have d0 := (HB.out.cell (p := ⟨b, o + j * 2, none⟩) k2).trans k3
          have d1 := (HB.out.cell (p := ⟨b, o + j * 2 + 1, none⟩) k2).trans k4
          have hc0 := HC0.out wr HB.out
          have hc3 := HC3.out wr HB.out
          have hc4 := HC4.out wr HB.out
          have hx1 := conv_src (w := wr.drew) (show Src wr _ _ from k5.below HB.out)
          have hx2 := conv_src (w := wr.drew) (show Src wr _ _ from HEN.out.below HB.out)
          have hq1 := strB_beqL k5.small HEN.out.small
          rw [decide_eq_false hne] at hq1
          have K5 : Hid (Src W (.slice np L[j].1.length nc) L[j].1) := k5
          have K6 : Hid (Src W (.slice qp L[j].2.length qc) L[j].2) := k6
          have K3 : Hid (∀ w', Below W.heap.size W w' → w'.cell? ⟨b, o + j * 2, none⟩ = some (.slice np L[j].1.length nc)) := fun w' hb => (hb.cell (p := ⟨b, o + j * 2, none⟩) k2).trans k3
          have K4 : Hid (∀ w', Below W.heap.size W w' → w'.cell? ⟨b, o + j * 2 + 1, none⟩ = some (.slice qp L[j].2.length qc)) := fun w' hb => (hb.cell (p := ⟨b, o + j * 2 + 1, none⟩) k2).trans k4
          have hol : O.length ≤ 1000000 := by have h1 := delAt_len HI.out; have h2 := HN.out; have h3 := HF.out; omega
          have HOL : Hid (O.length ≤ 1000000) := hol
          obtain ⟨oq, oc, rfl⟩ := HO.out.slice
          clear k3 k4 k5 k6 k2 HC3 HC0 hol
          generalize hs1 : strB L[j].1 = s1 at hx1 hx2 hq1
          generalize hs2 : strB a.name = s2 at hx1 hx2 hq1
          clear hs1 hs2
          generalize hpp : L[j] = pp at *
          clear hpp hne
          obtain ⟨p1, p2⟩ := pp
          simp only at K5 K6 K3 K4 d0 d1 hx1
          generalize p1.length = l1 at *
          generalize p2.length = l2 at *
          generalize hol : O.length = ol at *
          clear ja
          go_wp2_with fail
          go_region
          go_wp2_with fail
          go_region
          go_wp2_with (first | with_reducible (refine stop_builtin .append ?_))
          refine Stop.go ?_
          refine law_out (W := W) (B := W.heap.size) (w := wr.drew.drew) _ O np qp l1 nc l2 qc (p1, p2) rfl rfl rfl (HO.out.same (C8.below_drewN 2 wr _)) K5.out K6.out (by rw [hol]; exact HOL.out) (HB2.out.size) ?_
          intro q2 c2 w4 HO4 hb4
          rw [hol] at HO4
          have HB4 : Hid (Below W.heap.size W w4) := HB2.out.trans hb4
          clear hb4
          go_wp2_with fail
          refine ⟨⟨j + 1, by omega, by simp, O ++ [(p1, p2)], false, rfl, rfl, HB4, HO4, HI2.out⟩, ?_⟩
          simp only [intOf]
          omega
    · obtain rfl : j = n := by omega
      have j1 : ¬ (j : Int) < (j : Int) := by omega
      have hc0 := HC0.out wr HB.out
      have HE : Hid (O = del a.name L ∧ th = (get a.name L).isSome) := by
        have := HI.out
        rw [← HN.out] at this
        exact delAt_end this
      obtain ⟨oq, oc, rfl⟩ := HO.out.slice
      cases th with
      | true =>
        have HRR : Hid (RaSays w M x (.returned (.tuple #[.slice oq O.length oc, .int .i64 0])) wr) := by
          have hr := HO.out.row HB.out
          have h1 := HE.out.1
          have h2 := HE.out.2
          have h3 : RaSays w M x (.returned (.tuple #[.slice oq O.length oc, .int .i64 0])) wr := by
            rw [← HM.out.1, ← HM.out.2, ← h2, if_pos rfl, if_pos rfl]
            rw [h1] at hr ⊢
            exact ⟨oq, oc, rfl, hr.1, HB0.out.trans (bel_le HB.out HB0.out.size)⟩
          exact h3
        generalize O.length = ol at *
        go_wp2_with fail
        go_ret2
        exact HRR.out
      | false =>
        have HRR : Hid (RaSays w M x (.returned (.tuple #[.slice q j c, .int .i64 32])) wr) := by
          have h2 := HE.out.2
          have h3 : RaSays w M x (.returned (.tuple #[.slice q j c, .int .i64 32])) wr := by
            rw [← HM.out.1, ← HM.out.2, ← h2, if_neg (by simp), if_neg (by simp)]
            exact ⟨q, c, by rw [HN.out], HA.out.below HB.out, HB0.out.trans (bel_le HB.out HB0.out.size)⟩
          exact h3
        generalize O.length = ol at *
        go_wp2_with fail
        go_ret2
        exact HRR.out
theorem kind_of {a : En} (h : right a = true) : a.kind = 1 ∨ a.kind = 2 ∨ 2 < a.kind := by
  rcases ((right_iff a).1 h).2.2 with h1 | h1 | h1 | h1 | h1
  all_goals (have := h1.1; omega)
/-- The document's Apply makes of a right entry what the plain mathematics does. -/
theorem rApply_any (w : World) (q : Option Addr) (n c : Nat) (L : Col) (a : En) (va : Value) (h : DkRow w q L) (hok : Ok L) (hn : L.length = n) (hf : n < 1000000) (ha : EnIs w va a) (hr : right a = true) :
    Calls Try.prog 14 #[.slice q n c, va] w fun e w' => RaSays w (after L a).1 (after L a).2 e w' := by
  rcases kind_of hr with k | k | k
  · rw [after_put L hr k]
    exact rapply_put w q n c L a va h hok hn hf ha k
  · have hx := rapply_drop w q n c L a va h hok hn hf ha k
    cases hg : (get a.name L).isSome with
    | true =>
      rw [after_drop L hr k hg]
      simpa [hg] using hx
    | false =>
      rw [after_none L hr k hg]
      simpa [hg] using hx
  · rw [after_other L hr (by omega) (by omega)]
    exact rapply_other w q n c L a va h hok hn hf ha k
end Go.Proofs.Ytigfiopmochliaa.D11
