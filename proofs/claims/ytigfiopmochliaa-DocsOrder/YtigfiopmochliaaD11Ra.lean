/- The contract of the document's Apply. -/
import Derived.Test.YtigfiopmochliaaD11Rs
import Derived.Test.YtigfiopmochliaaE9Right
import Derived.Laws.Cover1
import Derived.Sort.Walk0
namespace Go.Proofs.Ytigfiopmochliaa.D11
open Go.RowKit C8 E9
theorem less_u (a b : List Nat) : Op.bytesLess (strB a).toList (strB b).toList = decide (u a < u b) := by
  rw [ByteArray.toList_eq, ByteArray.toList_eq, u_strB, u_strB, bytesLess_eq]
/-- What the document's Apply tells. -/
def RaSays (w : World) (M : Col) (x : Int) (e : Ending) (w' : World) : Prop := ∃ q c, e = .returned (.tuple #[.slice q M.length c, .int .i64 x]) ∧ DkRow w' q M ∧ Below w.heap.size w w'
theorem DkRow.small {w : World} {q : Option Addr} {L : Col} (h : DkRow w q L) (j : Nat) (hj : j < L.length) : ∀ x ∈ L[j].1, x < 256 := by
  obtain ⟨b, o, np, nc, vp, vc, h1, h2, h3, h4, h5, h6⟩ := h j hj
  exact h5.small
/-! how a put goes on, pair by pair -/
/-- What is told so far, and what is still to be told, make the whole. -/
def InsAt (k v : List Nat) (L : Col) (j : Nat) (done there : Bool) (O : Col) : Prop :=
  O ++ (if done = true then L.drop j else ins k v (L.drop j)) = ins k v L ∧ (done = true → ∀ p ∈ L.drop j, u k < u p.1) ∧ (done = false → there = false)
theorem drop_at {L : Col} {j : Nat} (h : j < L.length) : L.drop j = L[j] :: L.drop (j + 1) := List.drop_eq_getElem_cons h
theorem drop_lt {L : Col} (hL : Ok L) {j : Nat} (h : j < L.length) : ∀ p ∈ L.drop (j + 1), u L[j].1 < u p.1 := by
  have := hL.2.drop (i := j)
  rw [drop_at h] at this
  exact (List.pairwise_cons.1 this).1
theorem insAt_start (k v : List Nat) (L : Col) : InsAt k v L 0 false false [] := ⟨rfl, fun h => (by cases h), fun _ => rfl⟩
section
variable {k v : List Nat} {L O : Col} {j : Nat} {th : Bool}
theorem insAt_ne (h : InsAt k v L j true th O) (hj : j < L.length) : ¬ L[j].1 = k := fun e => by
  have := h.2.1 rfl L[j] (by rw [drop_at hj]; exact List.mem_cons_self)
  rw [e] at this
  exact lt_irr _ this
theorem insAt_done (h : InsAt k v L j true th O) (hj : j < L.length) (th' : Bool) : InsAt k v L (j + 1) true th' (O ++ [L[j]]) := by
  refine ⟨?_, fun _ p hp => h.2.1 rfl p (by rw [drop_at hj]; exact List.mem_cons_of_mem _ hp), fun e => (by cases e)⟩
  have := h.1
  rw [if_pos rfl, drop_at hj] at this
  rw [if_pos rfl]
  simpa using this
theorem insAt_less (h : InsAt k v L j false th O) (hj : j < L.length) (hlt : u L[j].1 < u k) : InsAt k v L (j + 1) false false (O ++ [L[j]]) := by
  refine ⟨?_, fun e => (by cases e), fun _ => rfl⟩
  have := h.1
  have h1 : ¬ u k < u L[j].1 := fun c => lt_irr _ (lt_tr hlt c)
  have h2 : ¬ L[j].1 = k := fun e => by rw [e] at hlt; exact lt_irr _ hlt
  rw [if_neg (by simp), drop_at hj, ins, if_neg h1, if_neg h2] at this
  rw [if_neg (by simp)]
  simpa using this
theorem insAt_same (hL : Ok L) (h : InsAt k v L j false th O) (hj : j < L.length) (he : L[j].1 = k) (th' : Bool) : InsAt k v L (j + 1) true th' (O ++ [(k, v)]) := by
  refine ⟨?_, fun _ p hp => by rw [← he]; exact drop_lt hL hj p hp, fun e => (by cases e)⟩
  have := h.1
  rw [if_neg (by simp), drop_at hj, ins, if_neg (by rw [he]; exact lt_irr _), if_pos he] at this
  rw [if_pos rfl]
  simpa using this
theorem insAt_more (hL : Ok L) (h : InsAt k v L j false th O) (hj : j < L.length) (hlt : u k < u L[j].1) (th' : Bool) : InsAt k v L (j + 1) true th' ((O ++ [(k, v)]) ++ [L[j]]) := by
  refine ⟨?_, fun _ p hp => lt_tr hlt (drop_lt hL hj p hp), fun e => (by cases e)⟩
  have := h.1
  rw [if_neg (by simp), drop_at hj, ins, if_pos hlt] at this
  rw [if_pos rfl]
  simpa using this
theorem insAt_end (h : InsAt k v L L.length true th O) : O = ins k v L := by
  have := h.1
  rw [if_pos rfl, List.drop_length, List.append_nil] at this
  exact this
theorem insAt_last (h : InsAt k v L L.length false th O) : O ++ [(k, v)] = ins k v L := by
  have := h.1
  rw [if_neg (by simp), List.drop_length] at this
  exact this
end
theorem insAt_len {k v : List Nat} {L O : Col} {j : Nat} {d th : Bool} (h : InsAt k v L j d th O) : O.length ≤ L.length + 1 := by
  have h1 := congrArg List.length h.1
  have h2 := length_ins_le k v L
  rw [List.length_append] at h1
  omega
/-- A row of the document's that grows. -/
def Out (B : Nat) (W : World) (v : Value) (O : Col) (w : World) : Prop := ∃ q c xs, v = .slice q O.length c ∧ w.ownsRow B 49 2 (.slice q O.length c) O.length xs ∧ AreQ (fun v l => Src W v l) xs O
theorem Out.nil (B : Nat) (W w : World) : Out B W (.slice none 0 0) [] w := ⟨none, 0, [], rfl, own_none _ _ _ _, trivial⟩
theorem Out.row {B : Nat} {W w : World} {q : Option Addr} {n c : Nat} {O : Col} (h : Out B W (.slice q n c) O w) (hb : Below W.heap.size W w) : DkRow w q O ∧ n = O.length := by
  obtain ⟨q', c', xs, e, h1, h2⟩ := h
  simp only [Value.slice.injEq] at e
  obtain ⟨rfl, rfl, rfl⟩ := e
  exact ⟨AreQ.row (h2.imp (fun v l hx => hx.below hb)) h1 rfl, rfl⟩
theorem Out.slice {B : Nat} {W w : World} {v : Value} {O : Col} (h : Out B W v O w) : ∃ q c, v = .slice q O.length c := by
  obtain ⟨q, c, xs, e, _⟩ := h
  exact ⟨q, c, e⟩
theorem Out.same {B : Nat} {W w w' : World} {v : Value} {O : Col} (h : Out B W v O w) (hb : Below w.heap.size w w') : Out B W v O w' := by
  obtain ⟨q, c, xs, e, h1, h2⟩ := h
  exact ⟨q, c, xs, e, own_below h1 hb, h2⟩
/-- One pair more is told. -/
theorem law_out {ops : Array Oper} {rest : List Oper} {dst : Option Tmp} {T : TypeId} {pos : String} {after : Array Edge} {a : Act} {w w1 W : World} {Q : Exit → Act → World → Prop} {so xo : Operand} {B : Nat}
    (v : Value) (O : Col) (np vp : Option Addr) (nl nc vl vc : Nat) (p : List Nat × List Nat) (hs : a.eval so = v) (hx : a.eval xo = .slice (some ⟨w.heap.size, 0, none⟩) 1 1) (hw : w1 = w.alloc (.cells #[.slice np nl nc, .slice vp vl vc] 49)) (ho : Out B W v O w)
    (h1 : Src W (.slice np nl nc) p.1) (h2 : Src W (.slice vp vl vc) p.2) (hn : O.length ≤ 1000000) (hB : B ≤ w.heap.size)
    (h : ∀ q' c' w', Out B W (.slice q' (O.length + 1) c') (O ++ [p]) w' → Below B w w' → wpList Try.prog ops Q rest (a.put dst (.slice q' (O.length + 1) c')) w') :
    wpList Try.prog ops Q ({ dst := dst, op := .call { callee := .builtin .append, args := #[so, xo], argTypes := #[27, 27] }, type := T, pos := pos, after := after, guard := none } :: rest) a w1 := by
  subst hw
  obtain ⟨q, c, xs, rfl, h3, h4⟩ := ho
  have h3' := own_below h3 (bel_alloc (Nat.le_refl _) (.cells #[.slice np nl nc, .slice vp vl vc] 49))
  have hB' : B ≤ (w.alloc (.cells #[.slice np nl nc, .slice vp vl vc] 49)).heap.size := by simp; omega
  refine law_append_r B (.slice q O.length c) O.length xs w.heap.size [.slice np nl nc, .slice vp vl vc] hs hx rfl h3' (range_last w _ 49) (by simp; exact ⟨rfl, rfl⟩) hn hB' ?_
  intro v2 w2 g1 g2
  obtain ⟨q2, c2, rfl⟩ := own_slice g1
  have hl : (O ++ [p]).length = O.length + 1 := by simp
  refine h q2 c2 w2 ⟨q2, c2, _, by rw [hl], by rw [hl]; exact g1, h4.snoc h1 h2⟩ ?_
  exact (bel_alloc hB _).trans (below_append h3' g2 hB')
set_option maxHeartbeats 8000000 in
set_option maxRecDepth 10000 in
theorem rapply_other (w : World) (q : Option Addr) (n c : Nat) (L : Col) (a : En) (va : Value) (h : DkRow w q L) (hok : Ok L) (hn : L.length = n) (hf : n < 1000000) (ha : EnIs w va a) (hk : 2 < a.kind) :
    Calls Try.prog 14 #[.slice q n c, va] w fun e w' => RaSays w L 0 e w' := by
  obtain ⟨ep, ec, vp, vc, wq, wc, rfl, ha⟩ := ha
  have e0 : EnV a ep ec vp vc wq wc = enC a.kind a.writer a.seq ep a.name.length ec vp a.value.length vc a.who a.rights a.epoch wq a.wraps.length wc := rfl
  rw [e0]
  obtain ⟨W, HW⟩ : ∃ W, Hid (w.alloc (.cells (enC a.kind a.writer a.seq ep a.name.length ec vp a.value.length vc a.who a.rights a.epoch wq a.wraps.length wc) 36) = W) := ⟨_, rfl⟩
  have HB0 : Hid (Below w.heap.size w W) := by rw [← HW.out]; exact bel_alloc (Nat.le_refl _) _
  have HSZ : Hid (W.heap.size = w.heap.size + 1) := by
    have : W.heap.size = w.heap.size + 1 := by rw [← HW.out]; simp
    exact this
  have HCC : Hid (W.heap[w.heap.size]? = some (.cells (enC a.kind a.writer a.seq ep a.name.length ec vp a.value.length vc a.who a.rights a.epoch wq a.wraps.length wc) 36 (0, 0))) := by rw [← HW.out]; exact heap_alloc_new w _
  have HENC : Hid (∀ w', Below W.heap.size W w' → w'.heap[w.heap.size]? = some (.cells (enC a.kind a.writer a.seq ep a.name.length ec vp a.value.length vc a.who a.rights a.epoch wq a.wraps.length wc) 36 (0, 0))) := fun w' hb => (hb.block _ (by have := HSZ.out; omega)).trans HCC.out
  have HA : Hid (DkRow W q L) := h.below HB0.out
  have HOK : Hid (Ok L) := hok
  have HN : Hid (L.length = n) := hn
  have HEN : Hid (Src W (.slice ep a.name.length ec) a.name) := ha.name.below HB0.out
  have HEV : Hid (Src W (.slice vp a.value.length vc) a.value) := ha.value.below HB0.out
  have hnb : (n : Int) ≤ 1000000 := by omega
  have hn0 : (0 : Int) ≤ (n : Int) := by omega
  have HR : Hid (∀ w', Below W.heap.size W w' → RaSays w L 0 (.returned (.tuple #[.slice q n c, .int .i64 0])) w') := fun w' hb => ⟨q, c, by rw [HN.out], HA.out.below hb, HB0.out.trans (bel_le hb HB0.out.size)⟩
  generalize a.kind = ki at *
  generalize a.name.length = n4 at *
  generalize a.value.length = n5 at *
  generalize a.wraps.length = n9 at *
  unfold enC at *
  have HC0 : Hid (∀ w', Below W.heap.size W w' → w'.cell? ⟨w.heap.size, 0, none⟩ = some (.int .i64 ki)) := fun w' hb => by rw [cell_of_row _ _ _ _ _ _ (HENC.out w' hb)]; rfl
  have HC3 : Hid (∀ w', Below W.heap.size W w' → w'.cell? ⟨w.heap.size, 3, none⟩ = some (.slice ep n4 ec)) := fun w' hb => by rw [cell_of_row _ _ _ _ _ _ (HENC.out w' hb)]; rfl
  have HC4 : Hid (∀ w', Below W.heap.size W w' → w'.cell? ⟨w.heap.size, 4, none⟩ = some (.slice vp n5 vc)) := fun w' hb => by rw [cell_of_row _ _ _ _ _ _ (HENC.out w' hb)]; rfl
  clear ha h hok hn e0 HCC HENC
  clear HB0 HA HOK HN HEN HEV HC0 HC3 HC4
  go_enter Try.func14, Try.ntmps14
  go_wp2_with fail
  go_ret2
  rw [HW.out]
  exact HR.out _ (Below.refl _ _)
set_option maxHeartbeats 8000000 in
set_option maxRecDepth 10000 in
theorem rapply_put (w : World) (q : Option Addr) (n c : Nat) (L : Col) (a : En) (va : Value) (h : DkRow w q L) (hok : Ok L) (hn : L.length = n) (hf : n < 1000000) (ha : EnIs w va a) (hk : a.kind = 1) :
    Calls Try.prog 14 #[.slice q n c, va] w fun e w' => RaSays w (ins a.name a.value L) 0 e w' := by
  obtain ⟨ep, ec, vp, vc, wq, wc, rfl, ha⟩ := ha
  have e0 : EnV a ep ec vp vc wq wc = enC a.kind a.writer a.seq ep a.name.length ec vp a.value.length vc a.who a.rights a.epoch wq a.wraps.length wc := rfl
  rw [e0]
  obtain ⟨W, HW⟩ : ∃ W, Hid (w.alloc (.cells (enC a.kind a.writer a.seq ep a.name.length ec vp a.value.length vc a.who a.rights a.epoch wq a.wraps.length wc) 36) = W) := ⟨_, rfl⟩
  have HB0 : Hid (Below w.heap.size w W) := by rw [← HW.out]; exact bel_alloc (Nat.le_refl _) _
  have HSZ : Hid (W.heap.size = w.heap.size + 1) := by
    have : W.heap.size = w.heap.size + 1 := by rw [← HW.out]; simp
    exact this
  have HCC : Hid (W.heap[w.heap.size]? = some (.cells (enC a.kind a.writer a.seq ep a.name.length ec vp a.value.length vc a.who a.rights a.epoch wq a.wraps.length wc) 36 (0, 0))) := by rw [← HW.out]; exact heap_alloc_new w _
  have HENC : Hid (∀ w', Below W.heap.size W w' → w'.heap[w.heap.size]? = some (.cells (enC a.kind a.writer a.seq ep a.name.length ec vp a.value.length vc a.who a.rights a.epoch wq a.wraps.length wc) 36 (0, 0))) := fun w' hb => (hb.block _ (by have := HSZ.out; omega)).trans HCC.out
  have HA : Hid (DkRow W q L) := h.below HB0.out
  have HOK : Hid (Ok L) := hok
  have HN : Hid (L.length = n) := hn
  have HEN : Hid (Src W (.slice ep a.name.length ec) a.name) := ha.name.below HB0.out
  have HEV : Hid (Src W (.slice vp a.value.length vc) a.value) := ha.value.below HB0.out
  have hnb : (n : Int) ≤ 1000000 := by omega
  have hn0 : (0 : Int) ≤ (n : Int) := by omega
  rw [hk] at *
  clear hk
  generalize a.name.length = n4 at *
  generalize a.value.length = n5 at *
  generalize a.wraps.length = n9 at *
  unfold enC at *
  have HC0 : Hid (∀ w', Below W.heap.size W w' → w'.cell? ⟨w.heap.size, 0, none⟩ = some (.int .i64 1)) := fun w' hb => by rw [cell_of_row _ _ _ _ _ _ (HENC.out w' hb)]; rfl
  have HC3 : Hid (∀ w', Below W.heap.size W w' → w'.cell? ⟨w.heap.size, 3, none⟩ = some (.slice ep n4 ec)) := fun w' hb => by rw [cell_of_row _ _ _ _ _ _ (HENC.out w' hb)]; rfl
  have HC4 : Hid (∀ w', Below W.heap.size W w' → w'.cell? ⟨w.heap.size, 4, none⟩ = some (.slice vp n5 vc)) := fun w' hb => by rw [cell_of_row _ _ _ _ _ _ (HENC.out w' hb)]; rfl
  clear ha h hok hn e0 HCC HENC
  go_enter Try.func14, Try.ntmps14
  go_wp2_with fail
  rw [HW.out]
  have HF : Hid (n ≤ 999999) := (by omega : n ≤ 999999)
  clear HW hf
  go_loopw [9, 6, 7, 8] (fun i v vt vd wr => ∃ j : Nat, j ≤ n ∧ i = .int .i64 j ∧ ∃ (O : Col) (th dn : Bool), vt = .bool th ∧ vd = .bool dn ∧ Hid (Below W.heap.size W wr) ∧ Hid (Out W.heap.size W v O wr) ∧ Hid (InsAt a.name a.value L j dn th O)) (fun i _ _ _ _ => n - (intOf i).toNat)
  case atStart => exact ⟨0, by omega, rfl, [], false, false, rfl, rfl, Below.refl _ _, Out.nil _ _ _, insAt_start _ _ _⟩
  case round =>
    obtain ⟨j, hj, rfl, O, th, dn, rfl, rfl, HB, HO, HI⟩ := hrel
    by_cases hjn : j < n
    · have ja : j < L.length := by rw [HN.out]; exact hjn
      have j1 : (j : Int) < (n : Int) := by omega
      have j0 : (0 : Int) ≤ (j : Int) := by omega
      have HB2 : Hid (Below W.heap.size W wr.drew.drew) := HB.out.trans (C8.below_drewN 2 wr _)
      cases dn with
      | true =>
        have hne := insAt_ne HI.out ja
        have hlt' : ¬ u L[j].1 < u a.name := fun c => lt_irr _ (lt_tr c (HI.out.2.1 rfl L[j] (by rw [drop_at ja]; exact List.mem_cons_self)))
        have HI2 : Hid (∀ th', InsAt a.name a.value L (j + 1) true th' (O ++ [L[j]])) := fun th' => insAt_done HI.out ja th'
        cases th with
        | true =>
          obtain ⟨b, o, np, nc, qp, qc, rfl, k2, k3, k4, k5, k6⟩ := HA.out j ja
          have d0 := (HB.out.cell (p := ⟨b, o + j * 2, none⟩) k2).trans k3
          have d1 := (HB.out.cell (p := ⟨b, o + j * 2 + 1, none⟩) k2).trans k4
          have hc0 := HC0.out wr HB.out
          have hc3 := HC3.out wr HB.out
          have hc4 := HC4.out wr HB.out
          have hx1 := conv_src (w := wr.drew) (show Src wr _ _ from k5.below HB.out)
          have hx2 := conv_src (w := wr.drew) (show Src wr _ _ from HEN.out.below HB.out)
          have hx3 := conv_src (w := wr.drew.drew) (show Src wr _ _ from k5.below HB.out)
          have hx4 := conv_src (w := wr.drew.drew) (show Src wr _ _ from HEN.out.below HB.out)
          have hq1 := strB_beqL k5.small HEN.out.small
          have hls := less_u L[j].1 a.name
          rw [decide_eq_false hne] at hq1
          rw [decide_eq_false hlt'] at hls
          have K5 : Hid (Src W (.slice np L[j].1.length nc) L[j].1) := k5
          have K6 : Hid (Src W (.slice qp L[j].2.length qc) L[j].2) := k6
          have K3 : Hid (∀ w', Below W.heap.size W w' → w'.cell? ⟨b, o + j * 2, none⟩ = some (.slice np L[j].1.length nc)) := fun w' hb => (hb.cell (p := ⟨b, o + j * 2, none⟩) k2).trans k3
          have K4 : Hid (∀ w', Below W.heap.size W w' → w'.cell? ⟨b, o + j * 2 + 1, none⟩ = some (.slice qp L[j].2.length qc)) := fun w' hb => (hb.cell (p := ⟨b, o + j * 2 + 1, none⟩) k2).trans k4
          have hol : O.length ≤ 1000000 := by have h1 := insAt_len HI.out; have h2 := HN.out; have h3 := HF.out; omega
          have HOL : Hid (O.length ≤ 1000000) := hol
          obtain ⟨oq, oc, rfl⟩ := HO.out.slice
          clear k3 k4 k5 k6 k2 HC3 HC0 hol
          generalize hs1 : strB L[j].1 = s1 at hx1 hx2 hx3 hx4 hq1 hls
          generalize hs2 : strB a.name = s2 at hx1 hx2 hx3 hx4 hq1 hls
          clear hs1 hs2
          generalize hpp : L[j] = pp at *
          clear hpp hne hlt'
          obtain ⟨p1, p2⟩ := pp
          simp only at K5 K6 K3 K4 d0 d1 hx1 hx3
          generalize p1.length = l1 at *
          generalize p2.length = l2 at *
          generalize hol : O.length = ol at *
          clear ja
          go_wp2_with fail
          go_region
          go_wp2_with fail
          go_region
          go_wp2_with (first | with_reducible (refine stop_builtin .append ?_))
          refine Stop.go ?_
          refine law_out (W := W) (B := W.heap.size) (w := wr.drew.drew) _ O np qp l1 nc l2 qc (p1, p2) rfl rfl rfl (HO.out.same (C8.below_drewN 2 wr _)) K5.out K6.out (by rw [hol]; exact HOL.out) (HB2.out.size) ?_
          intro q2 c2 w4 HO4 hb4
          rw [hol] at HO4
          have HB4 : Hid (Below W.heap.size W w4) := HB2.out.trans hb4
          clear hb4
          go_wp2_with fail
          refine ⟨⟨j + 1, by omega, by simp, O ++ [(p1, p2)], true, true, rfl, rfl, HB4, HO4, HI2.out _⟩, ?_⟩
          simp only [intOf]
          omega
        | false =>
          obtain ⟨b, o, np, nc, qp, qc, rfl, k2, k3, k4, k5, k6⟩ := HA.out j ja
          have d0 := (HB.out.cell (p := ⟨b, o + j * 2, none⟩) k2).trans k3
          have d1 := (HB.out.cell (p := ⟨b, o + j * 2 + 1, none⟩) k2).trans k4
          have hc0 := HC0.out wr HB.out
          have hc3 := HC3.out wr HB.out
          have hc4 := HC4.out wr HB.out
          have hx1 := conv_src (w := wr.drew) (show Src wr _ _ from k5.below HB.out)
          have hx2 := conv_src (w := wr.drew) (show Src wr _ _ from HEN.out.below HB.out)
          have hx3 := conv_src (w := wr.drew.drew) (show Src wr _ _ from k5.below HB.out)
          have hx4 := conv_src (w := wr.drew.drew) (show Src wr _ _ from HEN.out.below HB.out)
          have hq1 := strB_beqL k5.small HEN.out.small
          have hls := less_u L[j].1 a.name
          rw [decide_eq_false hne] at hq1
          rw [decide_eq_false hlt'] at hls
          have K5 : Hid (Src W (.slice np L[j].1.length nc) L[j].1) := k5
          have K6 : Hid (Src W (.slice qp L[j].2.length qc) L[j].2) := k6
          have K3 : Hid (∀ w', Below W.heap.size W w' → w'.cell? ⟨b, o + j * 2, none⟩ = some (.slice np L[j].1.length nc)) := fun w' hb => (hb.cell (p := ⟨b, o + j * 2, none⟩) k2).trans k3
          have K4 : Hid (∀ w', Below W.heap.size W w' → w'.cell? ⟨b, o + j * 2 + 1, none⟩ = some (.slice qp L[j].2.length qc)) := fun w' hb => (hb.cell (p := ⟨b, o + j * 2 + 1, none⟩) k2).trans k4
          have hol : O.length ≤ 1000000 := by have h1 := insAt_len HI.out; have h2 := HN.out; have h3 := HF.out; omega
          have HOL : Hid (O.length ≤ 1000000) := hol
          obtain ⟨oq, oc, rfl⟩ := HO.out.slice
          clear k3 k4 k5 k6 k2 HC3 HC0 hol
          generalize hs1 : strB L[j].1 = s1 at hx1 hx2 hx3 hx4 hq1 hls
          generalize hs2 : strB a.name = s2 at hx1 hx2 hx3 hx4 hq1 hls
          clear hs1 hs2
          generalize hpp : L[j] = pp at *
          clear hpp hne hlt'
          obtain ⟨p1, p2⟩ := pp
          simp only at K5 K6 K3 K4 d0 d1 hx1 hx3
          generalize p1.length = l1 at *
          generalize p2.length = l2 at *
          generalize hol : O.length = ol at *
          clear ja
          go_wp2_with fail
          go_region
          go_wp2_with fail
          go_region
          go_wp2_with (first | with_reducible (refine stop_builtin .append ?_))
          refine Stop.go ?_
          refine law_out (W := W) (B := W.heap.size) (w := wr.drew.drew) _ O np qp l1 nc l2 qc (p1, p2) rfl rfl rfl (HO.out.same (C8.below_drewN 2 wr _)) K5.out K6.out (by rw [hol]; exact HOL.out) (HB2.out.size) ?_
          intro q2 c2 w4 HO4 hb4
          rw [hol] at HO4
          have HB4 : Hid (Below W.heap.size W w4) := HB2.out.trans hb4
          clear hb4
          go_wp2_with fail
          refine ⟨⟨j + 1, by omega, by simp, O ++ [(p1, p2)], false, true, rfl, rfl, HB4, HO4, HI2.out _⟩, ?_⟩
          simp only [intOf]
          omega
      | false =>
        obtain rfl : th = false := HI.out.2.2 rfl
        rcases lt_total (u L[j].1) (u a.name) with hlt' | he' | hgt
        · have hne : ¬ L[j].1 = a.name := fun e => by rw [e] at hlt'; exact lt_irr _ hlt'
          have HI2 : Hid (InsAt a.name a.value L (j + 1) false false (O ++ [L[j]])) := insAt_less HI.out ja hlt'
          obtain ⟨b, o, np, nc, qp, qc, rfl, k2, k3, k4, k5, k6⟩ := HA.out j ja
          have d0 := (HB.out.cell (p := ⟨b, o + j * 2, none⟩) k2).trans k3
          have d1 := (HB.out.cell (p := ⟨b, o + j * 2 + 1, none⟩) k2).trans k4
          have hc0 := HC0.out wr HB.out
          have hc3 := HC3.out wr HB.out
          have hc4 := HC4.out wr HB.out
          have hx1 := conv_src (w := wr.drew) (show Src wr _ _ from k5.below HB.out)
          have hx2 := conv_src (w := wr.drew) (show Src wr _ _ from HEN.out.below HB.out)
          have hx3 := conv_src (w := wr.drew.drew) (show Src wr _ _ from k5.below HB.out)
          have hx4 := conv_src (w := wr.drew.drew) (show Src wr _ _ from HEN.out.below HB.out)
          have hq1 := strB_beqL k5.small HEN.out.small
          have hls := less_u L[j].1 a.name
          rw [decide_eq_false hne] at hq1
          rw [decide_eq_true hlt'] at hls
          have K5 : Hid (Src W (.slice np L[j].1.length nc) L[j].1) := k5
          have K6 : Hid (Src W (.slice qp L[j].2.length qc) L[j].2) := k6
          have K3 : Hid (∀ w', Below W.heap.size W w' → w'.cell? ⟨b, o + j * 2, none⟩ = some (.slice np L[j].1.length nc)) := fun w' hb => (hb.cell (p := ⟨b, o + j * 2, none⟩) k2).trans k3
          have K4 : Hid (∀ w', Below W.heap.size W w' → w'.cell? ⟨b, o + j * 2 + 1, none⟩ = some (.slice qp L[j].2.length qc)) := fun w' hb => (hb.cell (p := ⟨b, o + j * 2 + 1, none⟩) k2).trans k4
          have hol : O.length ≤ 1000000 := by have h1 := insAt_len HI.out; have h2 := HN.out; have h3 := HF.out; omega
          have HOL : Hid (O.length ≤ 1000000) := hol
          obtain ⟨oq, oc, rfl⟩ := HO.out.slice
          clear k3 k4 k5 k6 k2 HC3 HC0 hol
          generalize hs1 : strB L[j].1 = s1 at hx1 hx2 hx3 hx4 hq1 hls
          generalize hs2 : strB a.name = s2 at hx1 hx2 hx3 hx4 hq1 hls
          clear hs1 hs2
          generalize hpp : L[j] = pp at *
          clear hpp hne hlt'
          obtain ⟨p1, p2⟩ := pp
          simp only at K5 K6 K3 K4 d0 d1 hx1 hx3
          generalize p1.length = l1 at *
          generalize p2.length = l2 at *
          generalize hol : O.length = ol at *
          clear ja
          go_wp2_with fail
          go_region
          go_wp2_with fail
          go_region
          go_wp2_with (first | with_reducible (refine stop_builtin .append ?_))
          refine Stop.go ?_
          refine law_out (W := W) (B := W.heap.size) (w := wr.drew.drew) _ O np qp l1 nc l2 qc (p1, p2) rfl rfl rfl (HO.out.same (C8.below_drewN 2 wr _)) K5.out K6.out (by rw [hol]; exact HOL.out) (HB2.out.size) ?_
          intro q2 c2 w4 HO4 hb4
          rw [hol] at HO4
          have HB4 : Hid (Below W.heap.size W w4) := HB2.out.trans hb4
          clear hb4
          go_wp2_with fail
          refine ⟨⟨j + 1, by omega, by simp, O ++ [(p1, p2)], false, false, rfl, rfl, HB4, HO4, HI2.out⟩, ?_⟩
          simp only [intOf]
          omega
        · have he : L[j].1 = a.name := u_inj (HA.out.small j ja) HEN.out.small he'
          clear he'
          have hlt' : ¬ u L[j].1 < u a.name := by rw [he]; exact lt_irr _
          have HI2 : Hid (InsAt a.name a.value L (j + 1) true true (O ++ [(a.name, a.value)])) := insAt_same HOK.out HI.out ja he true
          obtain ⟨b, o, np, nc, qp, qc, rfl, k2, k3, k4, k5, k6⟩ := HA.out j ja
          have d0 := (HB.out.cell (p := ⟨b, o + j * 2, none⟩) k2).trans k3
          have d1 := (HB.out.cell (p := ⟨b, o + j * 2 + 1, none⟩) k2).trans k4
          have hc0 := HC0.out wr HB.out
          have hc3 := HC3.out wr HB.out
          have hc4 := HC4.out wr HB.out
          have hx1 := conv_src (w := wr.drew) (show Src wr _ _ from k5.below HB.out)
          have hx2 := conv_src (w := wr.drew) (show Src wr _ _ from HEN.out.below HB.out)
          have hx3 := conv_src (w := wr.drew.drew) (show Src wr _ _ from k5.below HB.out)
          have hx4 := conv_src (w := wr.drew.drew) (show Src wr _ _ from HEN.out.below HB.out)
          have hq1 := strB_beqL k5.small HEN.out.small
          have hls := less_u L[j].1 a.name
          rw [decide_eq_true he] at hq1
          rw [decide_eq_false hlt'] at hls
          have K5 : Hid (Src W (.slice np L[j].1.length nc) L[j].1) := k5
          have K6 : Hid (Src W (.slice qp L[j].2.length qc) L[j].2) := k6
          have K3 : Hid (∀ w', Below W.heap.size W w' → w'.cell? ⟨b, o + j * 2, none⟩ = some (.slice np L[j].1.length nc)) := fun w' hb => (hb.cell (p := ⟨b, o + j * 2, none⟩) k2).trans k3
          have K4 : Hid (∀ w', Below W.heap.size W w' → w'.cell? ⟨b, o + j * 2 + 1, none⟩ = some (.slice qp L[j].2.length qc)) := fun w' hb => (hb.cell (p := ⟨b, o + j * 2 + 1, none⟩) k2).trans k4
          have hol : O.length ≤ 1000000 := by have h1 := insAt_len HI.out; have h2 := HN.out; have h3 := HF.out; omega
          have HOL : Hid (O.length ≤ 1000000) := hol
          obtain ⟨oq, oc, rfl⟩ := HO.out.slice
          clear k3 k4 k5 k6 k2 HC3 HC0 hol
          generalize hs1 : strB L[j].1 = s1 at hx1 hx2 hx3 hx4 hq1 hls
          generalize hs2 : strB a.name = s2 at hx1 hx2 hx3 hx4 hq1 hls
          clear hs1 hs2
          generalize hpp : L[j] = pp at *
          clear hpp he hlt'
          obtain ⟨p1, p2⟩ := pp
          simp only at K5 K6 K3 K4 d0 d1 hx1 hx3
          generalize p1.length = l1 at *
          generalize p2.length = l2 at *
          generalize hol : O.length = ol at *
          clear ja
          go_wp2_with fail
          go_region
          go_wp2_with fail
          go_region
          go_wp2_with (first | with_reducible (refine stop_builtin .append ?_))
          refine Stop.go ?_
          refine law_out (W := W) (B := W.heap.size) (w := wr.drew.drew) _ O ep vp n4 ec n5 vc (a.name, a.value) rfl rfl rfl (HO.out.same (C8.below_drewN 2 wr _)) HEN.out HEV.out (by rw [hol]; exact HOL.out) (HB2.out.size) ?_
          intro q2 c2 w4 HO4 hb4
          rw [hol] at HO4
          have HB4 : Hid (Below W.heap.size W w4) := HB2.out.trans hb4
          clear hb4
          go_wp2_with fail
          refine ⟨⟨j + 1, by omega, by simp, O ++ [(a.name, a.value)], true, true, rfl, rfl, HB4, HO4, HI2.out⟩, ?_⟩
          simp only [intOf]
          omega
        · have hne : ¬ L[j].1 = a.name := fun e => by rw [e] at hgt; exact lt_irr _ hgt
          have hlt' : ¬ u L[j].1 < u a.name := fun c => lt_irr _ (lt_tr c hgt)
          have HI2 : Hid (InsAt a.name a.value L (j + 1) true false ((O ++ [(a.name, a.value)]) ++ [L[j]])) := insAt_more HOK.out HI.out ja hgt false
          have hols : O.length + 1 ≤ 1000000 := by have h1 := insAt_len HI2.out; have h2 := HN.out; have h3 := HF.out; simp only [List.length_append, List.length_cons, List.length_nil] at h1; omega
          have HOLS : Hid (O.length + 1 ≤ 1000000) := hols
          clear hgt hols
          obtain ⟨b, o, np, nc, qp, qc, rfl, k2, k3, k4, k5, k6⟩ := HA.out j ja
          have d0 := (HB.out.cell (p := ⟨b, o + j * 2, none⟩) k2).trans k3
          have d1 := (HB.out.cell (p := ⟨b, o + j * 2 + 1, none⟩) k2).trans k4
          have hc0 := HC0.out wr HB.out
          have hc3 := HC3.out wr HB.out
          have hc4 := HC4.out wr HB.out
          have hx1 := conv_src (w := wr.drew) (show Src wr _ _ from k5.below HB.out)
          have hx2 := conv_src (w := wr.drew) (show Src wr _ _ from HEN.out.below HB.out)
          have hx3 := conv_src (w := wr.drew.drew) (show Src wr _ _ from k5.below HB.out)
          have hx4 := conv_src (w := wr.drew.drew) (show Src wr _ _ from HEN.out.below HB.out)
          have hq1 := strB_beqL k5.small HEN.out.small
          have hls := less_u L[j].1 a.name
          rw [decide_eq_false hne] at hq1
          rw [decide_eq_false hlt'] at hls
          have K5 : Hid (Src W (.slice np L[j].1.length nc) L[j].1) := k5
          have K6 : Hid (Src W (.slice qp L[j].2.length qc) L[j].2) := k6
          have K3 : Hid (∀ w', Below W.heap.size W w' → w'.cell? ⟨b, o + j * 2, none⟩ = some (.slice np L[j].1.length nc)) := fun w' hb => (hb.cell (p := ⟨b, o + j * 2, none⟩) k2).trans k3
          have K4 : Hid (∀ w', Below W.heap.size W w' → w'.cell? ⟨b, o + j * 2 + 1, none⟩ = some (.slice qp L[j].2.length qc)) := fun w' hb => (hb.cell (p := ⟨b, o + j * 2 + 1, none⟩) k2).trans k4
          have hol : O.length ≤ 1000000 := by have h1 := insAt_len HI.out; have h2 := HN.out; have h3 := HF.out; omega
          have HOL : Hid (O.length ≤ 1000000) := hol
          obtain ⟨oq, oc, rfl⟩ := HO.out.slice
          clear k3 k4 k5 k6 k2 HC3 HC0 hol
          generalize hs1 : strB L[j].1 = s1 at hx1 hx2 hx3 hx4 hq1 hls
          generalize hs2 : strB a.name = s2 at hx1 hx2 hx3 hx4 hq1 hls
          clear hs1 hs2
          generalize hpp : L[j] = pp at *
          clear hpp hne hlt'
          obtain ⟨p1, p2⟩ := pp
          simp only at K5 K6 K3 K4 d0 d1 hx1 hx3
          generalize p1.length = l1 at *
          generalize p2.length = l2 at *
          generalize hol : O.length = ol at *
          clear ja
          go_wp2_with fail
          go_region
          go_wp2_with fail
          go_region
          go_wp2_with (first | with_reducible (refine stop_builtin .append ?_))
          refine Stop.go ?_
          refine law_out (W := W) (B := W.heap.size) (w := wr.drew.drew) _ O ep vp n4 ec n5 vc (a.name, a.value) rfl rfl rfl (HO.out.same (C8.below_drewN 2 wr _)) HEN.out HEV.out (by rw [hol]; exact HOL.out) (HB2.out.size) ?_
          intro q3 c3 w3 HO3 hb3
          rw [hol] at HO3
          have HB3 : Hid (Below W.heap.size W w3) := HB2.out.trans hb3
          clear hb3
          have d0' := K3.out w3 HB3.out
          have d1' := K4.out w3 HB3.out
          have HO3' : Hid (Out W.heap.size W (.slice q3 (ol + 1) c3) (O ++ [(a.name, a.value)]) w3) := HO3
          clear HO3
          go_wp2_with (first | with_reducible (refine stop_builtin .append ?_))
          refine Stop.go ?_
          refine law_out (W := W) (B := W.heap.size) (w := w3) _ (O ++ [(a.name, a.value)]) np qp l1 nc l2 qc (p1, p2) rfl rfl rfl (HO3'.out) K5.out K6.out (by rw [List.length_append, hol]; exact HOLS.out) (HB3.out.size) ?_
          intro q2 c2 w4 HO4 hb4
          have hol2 : (O ++ [(a.name, a.value)]).length = ol + 1 := by rw [List.length_append, hol]; rfl
          rw [hol2] at HO4
          clear hol2
          have HB4 : Hid (Below W.heap.size W w4) := HB3.out.trans hb4
          clear hb4
          go_wp2_with fail
          refine ⟨⟨j + 1, by omega, by simp, (O ++ [(a.name, a.value)]) ++ [(p1, p2)], false, true, rfl, rfl, HB4, HO4, HI2.out⟩, ?_⟩
          simp only [intOf]
          omega
    · obtain rfl : j = n := by omega
      have j1 : ¬ (j : Int) < (j : Int) := by omega
      have hc0 := HC0.out wr HB.out
      have hc3 := HC3.out wr HB.out
      have hc4 := HC4.out wr HB.out
      have hol' : O.length ≤ 1000000 := by have h1 := insAt_len HI.out; have h2 := HN.out; have h3 := HF.out; omega
      have HOL : Hid (O.length ≤ 1000000) := hol'
      obtain ⟨oq, oc, rfl⟩ := HO.out.slice
      clear hol'
      cases dn with
      | true =>
        have HE : Hid (O = ins a.name a.value L) := by
          have := HI.out
          rw [← HN.out] at this
          exact insAt_end this
        have HRR : Hid (RaSays w (ins a.name a.value L) 0 (.returned (.tuple #[.slice oq O.length oc, .int .i64 0])) wr) := by
          have hr := HO.out.row HB.out
          rw [HE.out] at hr ⊢
          exact ⟨oq, oc, rfl, hr.1, HB0.out.trans (bel_le HB.out HB0.out.size)⟩
        generalize O.length = ol at *
        go_wp2_with fail
        go_ret2
        exact HRR.out
      | false =>
        have HE : Hid (O ++ [(a.name, a.value)] = ins a.name a.value L) := by
          have := HI.out
          rw [← HN.out] at this
          exact insAt_last this
        generalize hol : O.length = ol at *
        go_wp2_with (first | with_reducible (refine stop_builtin .append ?_))
        refine Stop.go ?_
        refine law_out (W := W) (B := W.heap.size) (w := wr) _ O ep vp n4 ec n5 vc (a.name, a.value) rfl rfl rfl (HO.out) HEN.out HEV.out (by rw [hol]; exact HOL.out) (HB.out.size) ?_
        intro q2 c2 w4 HO4 hb4
        rw [hol] at HO4
        have HB4 : Hid (Below W.heap.size W w4) := HB.out.trans hb4
        have HRR : Hid (RaSays w (ins a.name a.value L) 0 (.returned (.tuple #[.slice q2 (ol + 1) c2, .int .i64 0])) w4) := by
          have hr := HO4.row HB4.out
          rw [HE.out] at hr
          rw [hr.2]
          exact ⟨q2, c2, rfl, hr.1, HB0.out.trans (bel_le HB4.out HB0.out.size)⟩
        clear hb4 HO4
        go_wp2_with fail
        go_ret2
        exact HRR.out
end Go.Proofs.Ytigfiopmochliaa.D11
