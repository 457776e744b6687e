/- The contracts of Len, Clone, Link, At, Head and Check. -/
import Derived.Test.YtkiohhkmlpgdoaaDoorC12Base
namespace Go.Proofs.YtkiohhkmlpgdoaaDoor.S7
open Go.RowKit
theorem below_alloc' (w : World) (o : Obj) : Below w.heap.size w (w.alloc o) := (Below.refl _ _).alloc (Nat.le_refl _) _
theorem Len_any {B : Nat} {w : World} {c p : Nat} {lv sv : Value} {ls ss : List (List Nat)} (h : ChIs B w c p lv sv ls ss) : Calls Tryd.prog 16 #[.pointer (some ⟨c, 0, none⟩)] w fun e w' => e = .returned (.int .i64 (ls.length : Int)) ∧ w' = w := by
  obtain ⟨_, c1, _, _⟩ := h.cells
  obtain ⟨xs, hx⟩ := h.links
  obtain ⟨q, cc, rfl⟩ := hx.slice
  clear h hx
  generalize ls.length = n at *
  go_enter Tryd.func16, Tryd.ntmps16
  go_wp2_with fail
  go_ret
  exact ⟨rfl, rfl⟩
set_option maxHeartbeats 400000 in
theorem clone_any {l : List Nat} (v : Value) (w : World) (hv : Src w v l) (hl : l.length ≤ 50000) :
    Calls Tryd.prog 28 #[v] w fun e w' => ∃ u, e = .returned u ∧ w'.ownsRow w.heap.size 5 1 u l.length (ints .u8 l) ∧ Below w.heap.size w w' := by
  have HV : Hid (Src w v l) := hv
  have HL : Hid (l.length ≤ 50000) := hl
  have key : ∀ ad n c, v = .slice (some ad) n c → Calls Tryd.prog 28 #[v] w fun e w' => ∃ u, e = .returned u ∧ w'.ownsRow w.heap.size 5 1 u l.length (ints .u8 l) ∧ Below w.heap.size w w' := by
    intro ad n c e
    subst e
    clear hv hl
    have hnil : (binOp .eql 23 (.slice (some ad) n c) (.slice none 0 0)).run Tryd.prog w = .ok (.bool false) w := Lib.run_eql_slice_nil w 23 5 (some ad) n c 0 0 Tryd.underlying23
    go_enter Tryd.func28, Tryd.ntmps28
    go_wp2_with (first | with_reducible (refine stop_builtin .append ?_))
    refine Stop.go ?_
    have hb5 : Below w.heap.size w (w.alloc (.cells #[] 5)) := (Below.refl _ _).alloc (Nat.le_refl _) _
    have he : (w.alloc (.cells #[] 5)).ownsRow w.heap.size 5 1 (.slice (some ⟨w.heap.size, 0, none⟩) 0 0) 0 (ints .u8 []) :=
      ⟨rfl, .inr ⟨w.heap.size, 0, #[], rfl, Nat.le_refl _, heap_alloc_new w _, Nat.le_refl _, by unfold maxLen; decide, rfl, rfl⟩⟩
    refine law_append_src w.heap.size _ 0 [] _ l rfl rfl he (HV.out.below hb5) (by have := HL.out; omega) (by simp) ?_
    intro u w1 ho hg
    have HB : Hid (Below w.heap.size w w1) := hb5.trans (below_append he hg (by simp))
    have HO : Hid (w1.ownsRow w.heap.size 5 1 u (0 + l.length) (ints .u8 ([] ++ l))) := ho
    clear ho hg hb5 he
    go_wp2_with fail
    go_ret
    exact ⟨_, rfl, by have := HO.out; rw [Nat.zero_add] at this; exact this, HB.out⟩
  rcases hv.2 with ⟨rfl, rfl⟩ | ⟨ad, c, rfl, rfl⟩ | ⟨b, o, c, rfl, _⟩
  · clear key hv hl
    have hnil : (binOp .eql 23 (.slice none 0 0) (.slice none 0 0)).run Tryd.prog w = .ok (.bool true) w := Lib.run_eql_slice_nil w 23 5 none 0 0 0 0 Tryd.underlying23
    go_enter Tryd.func28, Tryd.ntmps28
    go_wp2_with fail
    go_ret
    exact ⟨_, rfl, own_none _ _ _ _, Below.refl _ _⟩
  · exact key _ _ _ rfl
  · exact key _ _ _ rfl
section
variable {B : Nat} {w : World} {c p : Nat} {lv sv : Value} {ls ss : List (List Nat)}
/-- A link that isn't there. -/
theorem Link_none (h : ChIs B w c p lv sv ls ss) (i : Int) (hi : i < 0 ∨ (ls.length : Int) ≤ i) : Calls Tryd.prog 21 #[.pointer (some ⟨c, 0, none⟩), .int .i64 i] w fun e w' => e = .returned (.tuple #[.slice none 0 0, .bool false]) ∧ w' = w := by
  have HL : Hid (Calls Tryd.prog 16 #[.pointer (some ⟨c, 0, none⟩)] w fun e w' => e = .returned (.int .i64 (ls.length : Int)) ∧ w' = w) := Len_any h
  clear h
  generalize ls.length = n at *
  by_cases h0 : i < 0
  · clear hi
    go_enter Tryd.func21, Tryd.ntmps21
    go_wp2_with fail
    go_ret2
    exact ⟨rfl, rfl⟩
  · have h1 : (n : Int) ≤ i := by omega
    clear hi
    go_enter Tryd.func21, Tryd.ntmps21
    go_wp2_with fail
    refine HL.out.mono ?_
    rintro e w1 ⟨rfl, hw⟩
    obtain rfl : w = w1 := hw.symm
    go_wp2_with fail
    go_ret2
    exact ⟨rfl, rfl⟩
theorem get_lt {α : Type} {l : List α} {i : Nat} {x : α} (h : l[i]? = some x) : i < l.length := (List.getElem?_eq_some_iff.1 h).1
/-- A link. -/
theorem Link_at (h : ChIs B w c p lv sv ls ss) (j : Nat) (l : List Nat) (hl : ls[j]? = some l) (hm : l.length ≤ 50000) : Calls Tryd.prog 21 #[.pointer (some ⟨c, 0, none⟩), .int .i64 (j : Int)] w fun e w' => ∃ u, e = .returned (.tuple #[u, .bool true]) ∧ w'.ownsRow w.heap.size 5 1 u l.length (ints .u8 l) ∧ Below w.heap.size w w' := by
  have hj := get_lt hl
  have HL : Hid (Calls Tryd.prog 16 #[.pointer (some ⟨c, 0, none⟩)] w fun e w' => e = .returned (.int .i64 (ls.length : Int)) ∧ w' = w) := Len_any h
  obtain ⟨_, c1, _, _⟩ := h.cells
  obtain ⟨xs, hx⟩ := h.links
  obtain ⟨g, cc, x, rfl, _, hc, hb⟩ := hx.at hj
  obtain rfl : ls[j] = l := by rw [List.getElem?_eq_getElem hj] at hl; exact Option.some.inj hl
  have HC : Hid (Calls Tryd.prog 28 #[x] w fun e w' => ∃ u, e = .returned u ∧ w'.ownsRow w.heap.size 5 1 u ls[j].length (ints .u8 ls[j]) ∧ Below w.heap.size w w') := clone_any x w hb.src hm
  have h0 : (0 : Int) ≤ (j : Int) := by omega
  have h1 : (j : Int) < (ls.length : Int) := by omega
  clear h hx hb hl
  generalize ls[j] = l at *
  generalize ls.length = n at *
  go_enter Tryd.func21, Tryd.ntmps21
  go_wp2_with fail
  refine HL.out.mono ?_
  rintro e w1 ⟨rfl, hw⟩
  obtain rfl : w = w1 := hw.symm
  go_wp2_with fail
  refine HC.out.mono ?_
  rintro e w1 ⟨u, rfl, ho, hb⟩
  have HO : Hid (w1.ownsRow w.heap.size 5 1 u l.length (ints .u8 l)) := ho
  have HB : Hid (Below w.heap.size w w1) := hb
  clear ho hb HC HL
  go_wp2_with fail
  go_ret2
  exact ⟨_, rfl, HO.out, HB.out⟩
end
theorem results_row2 {P : Program} {fn : Func} {p u : Tmp} {ty : TypeId} (h : fn.results = #[.cell p ty, .tmp u]) (tmps : Array Value) (w : World) (g : Nat) (t : TypeId) (cs : Array Value) (fr : Nat × Nat) (d : TypeDesc)
    (hp : tmps.getD p undef = .pointer (some ⟨g, 0, none⟩)) (hg : w.heap[g]? = some (.cells cs t fr))
    (hu : P.underlying ty = some d) (hd : (match d with | .struct _ | .array _ _ => true | _ => false) = true) (hi : (P.info? ty).map (·.size) = some cs.size) :
    (results fn tmps).run P w = .ok (.tuple #[.agg cs, tmps.getD u undef]) w := by
  rw [results_cell_tmp h]
  have hp' : tmps[p]?.getD undef = .pointer (some ⟨g, 0, none⟩) := by simpa using hp
  simp [hp', asAddr, run_loadVar_row w g t ty cs fr d hg hu hd hi, Result.andThen]
theorem row_two {w : World} {b : Nat} {t : TypeId} {x0 x1 : Value} (h : w.heap[b]? = some (.cells #[x0, x1] t (0, 0))) (v0 v1 : Value) :
    ((w.setCell ⟨b, 0, none⟩ v0).setCell ⟨b, 1, none⟩ v1).heap[b]? = some (.cells #[v0, v1] t (0, 0)) := by
  have k0 : (w.setCell ⟨b, 0, none⟩ v0).heap[b]? = some (.cells #[v0, x1] t (0, 0)) := heap_setCell_same _ b 0 _ t v0 h
  exact heap_setCell_same _ b 1 _ t v1 k0
section
variable {B : Nat} {w : World} {c p : Nat} {lv sv : Value} {ls ss : List (List Nat)}
set_option maxHeartbeats 1000000 in
/-- A head of a length that isn't there. -/
theorem At_none (h : ChIs B w c p lv sv ls ss) (i : Int) (hi : i < 0 ∨ (ls.length : Int) < i) : Calls Tryd.prog 20 #[.pointer (some ⟨c, 0, none⟩), .int .i64 i] w fun e w' => e = .returned (.tuple #[.agg #[.int .i64 0, .slice none 0 0], .bool false]) ∧ Below w.heap.size w w' := by
  have HL : Hid (Calls Tryd.prog 16 #[.pointer (some ⟨c, 0, none⟩)] (w.alloc (.cells #[.int .i64 0, .slice none 0 0] 44)) fun e w' => e = .returned (.int .i64 (ls.length : Int)) ∧ w' = (w.alloc (.cells #[.int .i64 0, .slice none 0 0] 44))) := Len_any (h.below (below_alloc' w _))
  have HZ : Hid ((w.alloc (.cells #[.int .i64 0, .slice none 0 0] 44)).heap[w.heap.size]? = some (.cells #[.int .i64 0, .slice none 0 0] 44 (0, 0))) := heap_alloc_new w _
  have x0 : (w.alloc (.cells #[.int .i64 0, .slice none 0 0] 44)).cell? ⟨w.heap.size, 0, none⟩ = some (.int .i64 0) := by rw [cell_of_row _ _ _ _ _ _ HZ.out]; rfl
  have y0 : (w.alloc (.cells #[.int .i64 0, .slice none 0 0] 44)).frozen? ⟨w.heap.size, 0, none⟩ = false := frozen_of_row _ _ _ _ _ HZ.out
  have x1 : (w.alloc (.cells #[.int .i64 0, .slice none 0 0] 44)).cell? ⟨w.heap.size, 1, none⟩ = some (.slice none 0 0) := by rw [cell_of_row _ _ _ _ _ _ HZ.out]; rfl
  have y1 : (w.alloc (.cells #[.int .i64 0, .slice none 0 0] 44)).frozen? ⟨w.heap.size, 1, none⟩ = false := frozen_of_row _ _ _ _ _ HZ.out
  have HB : Hid (Below w.heap.size w (w.alloc (.cells #[.int .i64 0, .slice none 0 0] 44))) := below_alloc' w _
  clear h
  generalize ls.length = n at *
  by_cases h0 : i < 0
  · clear hi
    go_enter Tryd.func20, Tryd.ntmps20
    go_wp2_with fail
    refine bodyPost_ret (results_row2 rfl _ _ w.heap.size 44 _ (0, 0) _ rfl HZ.out Tryd.underlying44 rfl (by kernel_rfl)) rfl ⟨rfl, HB.out⟩
  · have h1 : (n : Int) < i := by omega
    clear hi
    go_enter Tryd.func20, Tryd.ntmps20
    go_wp2_with fail
    refine HL.out.mono ?_
    rintro e w1 ⟨rfl, hw⟩
    subst hw
    go_wp2_with fail
    refine bodyPost_ret (results_row2 rfl _ _ w.heap.size 44 _ (0, 0) _ rfl HZ.out Tryd.underlying44 rfl (by kernel_rfl)) rfl ⟨rfl, HB.out⟩
set_option maxHeartbeats 1000000 in
/-- A head. -/
theorem At_at (h : ChIs B w c p lv sv ls ss) (j : Nat) (l : List Nat) (hj : j ≤ ls.length) (hl : ss[j]? = some l) (hm : l.length ≤ 50000) : Calls Tryd.prog 20 #[.pointer (some ⟨c, 0, none⟩), .int .i64 (j : Int)] w fun e w' => ∃ u, e = .returned (.tuple #[.agg #[.int .i64 (j : Int), u], .bool true]) ∧ w'.ownsRow w.heap.size 5 1 u l.length (ints .u8 l) ∧ Below w.heap.size w w' := by
  have hs := get_lt hl
  obtain ⟨wa, HWA⟩ : ∃ wa, Hid (w.alloc (.cells #[.int .i64 0, .slice none 0 0] 44) = wa) := ⟨_, rfl⟩
  have hba : Below w.heap.size w wa := by rw [← HWA.out]; exact below_alloc' w _
  have hca := h.below hba
  have HZ : Hid (wa.heap[w.heap.size]? = some (.cells #[.int .i64 0, .slice none 0 0] 44 (0, 0))) := by rw [← HWA.out]; exact heap_alloc_new w _
  have HL : Hid (Calls Tryd.prog 16 #[.pointer (some ⟨c, 0, none⟩)] wa fun e w' => e = .returned (.int .i64 (ls.length : Int)) ∧ w' = wa) := Len_any hca
  obtain ⟨_, _, c2, _⟩ := hca.cells
  obtain ⟨xs, hx⟩ := hca.sums
  obtain ⟨g, cc, x, rfl, _, hc, hb⟩ := hx.at hs
  obtain rfl : ss[j] = l := by rw [List.getElem?_eq_getElem hs] at hl; exact Option.some.inj hl
  have HC : Hid (Calls Tryd.prog 28 #[x] wa fun e w' => ∃ u, e = .returned u ∧ w'.ownsRow wa.heap.size 5 1 u ss[j].length (ints .u8 ss[j]) ∧ Below wa.heap.size wa w') := clone_any x wa hb.src hm
  have h0 : (0 : Int) ≤ (j : Int) := by omega
  have h1 : ¬ (ls.length : Int) < (j : Int) := by omega
  have h2 : (j : Int) < (ss.length : Int) := by omega
  have HBA : Hid (Below w.heap.size w wa ∧ w.heap.size < wa.heap.size) := ⟨hba, (Array.getElem?_eq_some_iff.1 HZ.out).1⟩
  clear h hx hb hca hba hl
  generalize ss[j] = l at *
  generalize ls.length = n at *
  generalize ss.length = m at *
  go_enter Tryd.func20, Tryd.ntmps20
  go_wp2_with fail
  rw [HWA.out]
  refine HL.out.mono ?_
  rintro e w1 ⟨rfl, hw⟩
  obtain rfl : wa = w1 := hw.symm
  go_wp2_with fail
  refine HC.out.mono ?_
  rintro e w2 ⟨u, rfl, ho, hb⟩
  have HZ2 : Hid (w2.heap[w.heap.size]? = some (.cells #[.int .i64 0, .slice none 0 0] 44 (0, 0))) := (hb.block _ HBA.out.2).trans HZ.out
  have x0 : w2.cell? ⟨w.heap.size, 0, none⟩ = some (.int .i64 0) := by rw [cell_of_row _ _ _ _ _ _ HZ2.out]; rfl
  have y0 : w2.frozen? ⟨w.heap.size, 0, none⟩ = false := frozen_of_row _ _ _ _ _ HZ2.out
  have x1 : w2.cell? ⟨w.heap.size, 1, none⟩ = some (.slice none 0 0) := by rw [cell_of_row _ _ _ _ _ _ HZ2.out]; rfl
  have y1 : w2.frozen? ⟨w.heap.size, 1, none⟩ = false := frozen_of_row _ _ _ _ _ HZ2.out
  have HO : Hid (w2.ownsRow (w.heap.size + 1) 5 1 u l.length (ints .u8 l)) := own_older ho HBA.out.2
  have HB : Hid (Below w.heap.size w w2) := HBA.out.1.trans (hb.mono HBA.out.1.size)
  obtain ⟨uq, uc, rfl⟩ := own_slice ho
  clear ho hb HC HL HZ
  generalize hll : l.length = ll at *
  go_wp2_with fail
  refine bodyPost_ret (results_row2 rfl _ _ w.heap.size 44 _ (0, 0) _ rfl (row_two HZ2.out _ _) Tryd.underlying44 rfl (by kernel_rfl)) rfl ⟨_, rfl, ?_, ?_⟩
  · rw [hll]
    refine own_older (own_only (own_only HO.out (Only.setCell (bs := [w.heap.size]) _ ⟨w.heap.size, 0, none⟩ _ (by simp)) (own_off HO.out (by simp))) (Only.setCell (bs := [w.heap.size]) _ ⟨w.heap.size, 1, none⟩ _ (by simp)) (own_off HO.out (by simp))) (Nat.le_succ _)
  · exact (HB.out.setCell (p := ⟨w.heap.size, 0, none⟩) (Nat.le_refl _) _).setCell (p := ⟨w.heap.size, 1, none⟩) (Nat.le_refl _) _
set_option maxHeartbeats 1000000 in
/-- A head is held against the chain, one that is there. -/
theorem Check_at (h : ChIs B w c p lv sv ls ss) (j : Nat) (l k : List Nat) (hv : Value) (hj : j ≤ ls.length) (hl : ss[j]? = some l) (hk : Src w hv k) : Calls Tryd.prog 18 #[.pointer (some ⟨c, 0, none⟩), .agg #[.int .i64 (j : Int), hv]] w fun e w' => e = .returned (.int .i64 (if k = l then 0 else 24)) ∧ Below w.heap.size w w' := by
  have hs := get_lt hl
  obtain ⟨wa, HWA⟩ : ∃ wa, Hid (w.alloc (.cells #[.int .i64 (j : Int), hv] 44) = wa) := ⟨_, rfl⟩
  have hba : Below w.heap.size w wa := by rw [← HWA.out]; exact below_alloc' w _
  have hca := h.below hba
  have HZ : wa.heap[w.heap.size]? = some (.cells #[.int .i64 (j : Int), hv] 44 (0, 0)) := by rw [← HWA.out]; exact heap_alloc_new w _
  have x0 : wa.cell? ⟨w.heap.size, 0, none⟩ = some (.int .i64 (j : Int)) := by rw [cell_of_row _ _ _ _ _ _ HZ]; rfl
  have x1 : wa.cell? ⟨w.heap.size, 1, none⟩ = some hv := by rw [cell_of_row _ _ _ _ _ _ HZ]; rfl
  have HL : Hid (∀ w', Below wa.heap.size wa w' → Calls Tryd.prog 16 #[.pointer (some ⟨c, 0, none⟩)] w' fun e w'' => e = .returned (.int .i64 (ls.length : Int)) ∧ w'' = w') := fun w' hb => Len_any (hca.below hb)
  obtain ⟨_, _, c2, _⟩ := hca.cells
  obtain ⟨xs, hx⟩ := hca.sums
  obtain ⟨g, cc, x, rfl, _, hc, hb⟩ := hx.at hs
  obtain rfl : ss[j] = l := by rw [List.getElem?_eq_getElem hs] at hl; exact Option.some.inj hl
  have HE : Hid (∀ w', Below wa.heap.size wa w' → Calls Tryd.prog 29 #[hv, x] w' fun e w'' => e = .returned (.bool (decide (k = ss[j]))) ∧ w'' = w') := fun w' hw => equal_any hv x w' ((hk.below hba).below hw) (hb.src.below hw)
  obtain ⟨xp, xc, rfl, _⟩ := hb.src.slice
  obtain ⟨hp, hcp, rfl, _⟩ := hk.slice
  have h0 : ¬ (j : Int) < 0 := by omega
  have h0' : (0 : Int) ≤ (j : Int) := by omega
  have h1 : ¬ (ls.length : Int) < (j : Int) := by omega
  have h2 : (j : Int) < (ss.length : Int) := by omega
  have HB : Hid (∀ w', Below wa.heap.size wa w' → Below w.heap.size w w') := fun w' hw => hba.trans (hw.mono hba.size)
  have key : ∀ (r : Bool) (R : Int), decide (k = ss[j]) = r → (R = if r then 0 else 24) → Calls Tryd.prog 18 #[.pointer (some ⟨c, 0, none⟩), .agg #[.int .i64 (j : Int), .slice hp k.length hcp]] w fun e w' => e = .returned (.int .i64 R) ∧ Below w.heap.size w w' := by
    intro r R hr hR
    rw [hr] at HE
    clear hr h hx hb hca hba hl hk HZ
    generalize k.length = kl at *
    generalize ss[j].length = sl at *
    generalize ls.length = n at *
    generalize ss.length = m at *
    cases r with
    | true =>
      have eR : R = 0 := by rw [hR]; rfl
      clear hR
      subst eR
      go_enter Tryd.func18, Tryd.ntmps18
      go_wp2_with fail
      rw [HWA.out]
      go_wp2_with fail
      go_quiet ((go_at_call 16; exact Calls.quiet_of_same (HL.out _ (below_drewN _ _ _))))
      go_wp2_with fail
      go_quiet ((go_at_call 29; exact (HE.out _ (below_drewN _ _ _)).mono fun _ _ h => ⟨h.1, _, h.2⟩))
      go_wp2_with fail
      go_ret
      exact ⟨rfl, HB.out _ ((below_drewN _ _ _).trans (below_drewN _ _ _))⟩
    | false =>
      have eR : R = 24 := by rw [hR]; rfl
      clear hR
      subst eR
      go_enter Tryd.func18, Tryd.ntmps18
      go_wp2_with fail
      rw [HWA.out]
      go_wp2_with fail
      go_quiet ((go_at_call 16; exact Calls.quiet_of_same (HL.out _ (below_drewN _ _ _))))
      go_wp2_with fail
      go_quiet ((go_at_call 29; exact (HE.out _ (below_drewN _ _ _)).mono fun _ _ h => ⟨h.1, _, h.2⟩))
      go_wp2_with fail
      go_ret
      exact ⟨rfl, HB.out _ ((below_drewN _ _ _).trans (below_drewN _ _ _))⟩
  by_cases he : k = ss[j]
  · exact key true _ (decide_eq_true he) (by rw [if_pos he]; rfl)
  · exact key false _ (decide_eq_false he) (by rw [if_neg he]; rfl)
set_option maxHeartbeats 1000000 in
/-- A head that the chain can't have. -/
theorem Check_out (h : ChIs B w c p lv sv ls ss) (i : Int) (hp : Option Addr) (hn hc : Nat) (hi : i < 0 ∨ (ls.length : Int) < i) : Calls Tryd.prog 18 #[.pointer (some ⟨c, 0, none⟩), .agg #[.int .i64 i, .slice hp hn hc]] w fun e w' => e = .returned (.int .i64 (if i < 0 then 12 else 14)) ∧ Below w.heap.size w w' := by
  obtain ⟨wa, HWA⟩ : ∃ wa, Hid (w.alloc (.cells #[.int .i64 i, .slice hp hn hc] 44) = wa) := ⟨_, rfl⟩
  have hba : Below w.heap.size w wa := by rw [← HWA.out]; exact below_alloc' w _
  have hca := h.below hba
  have HZ : wa.heap[w.heap.size]? = some (.cells #[.int .i64 i, .slice hp hn hc] 44 (0, 0)) := by rw [← HWA.out]; exact heap_alloc_new w _
  have x0 : wa.cell? ⟨w.heap.size, 0, none⟩ = some (.int .i64 i) := by rw [cell_of_row _ _ _ _ _ _ HZ]; rfl
  have HL : Hid (∀ w', Below wa.heap.size wa w' → Calls Tryd.prog 16 #[.pointer (some ⟨c, 0, none⟩)] w' fun e w'' => e = .returned (.int .i64 (ls.length : Int)) ∧ w'' = w') := fun w' hb => Len_any (hca.below hb)
  have HB : Hid (∀ w', Below wa.heap.size wa w' → Below w.heap.size w w') := fun w' hw => hba.trans (hw.mono hba.size)
  clear h hca hba HZ
  generalize ls.length = n at *
  by_cases h0 : i < 0
  · rw [if_pos h0]
    clear hi
    go_enter Tryd.func18, Tryd.ntmps18
    go_wp2_with fail
    rw [HWA.out]
    go_wp2_with fail
    go_ret
    exact ⟨rfl, HB.out _ (Below.refl _ _)⟩
  · rw [if_neg h0]
    have h1 : (n : Int) < i := by omega
    clear hi
    go_enter Tryd.func18, Tryd.ntmps18
    go_wp2_with fail
    rw [HWA.out]
    go_wp2_with fail
    go_quiet ((go_at_call 16; exact Calls.quiet_of_same (HL.out _ (below_drewN _ _ _))))
    go_wp2_with fail
    go_ret
    exact ⟨rfl, HB.out _ (below_drewN _ _ _)⟩
set_option maxHeartbeats 1000000 in
/-- The head of all. -/
theorem Head_any (h : ChIs B w c p lv sv ls ss) (l : List Nat) (hl : ss[ls.length]? = some l) (hm : l.length ≤ 50000) : Calls Tryd.prog 17 #[.pointer (some ⟨c, 0, none⟩)] w fun e w' => ∃ u, e = .returned (.agg #[.int .i64 (ls.length : Int), u]) ∧ w'.ownsRow w.heap.size 5 1 u l.length (ints .u8 l) ∧ Below w.heap.size w w' := by
  obtain ⟨wa, HWA⟩ : ∃ wa, Hid (w.alloc (.cells #[.int .i64 0, .slice none 0 0] 44) = wa) := ⟨_, rfl⟩
  have hba : Below w.heap.size w wa := by rw [← HWA.out]; exact below_alloc' w _
  have HZ : Hid (wa.heap[w.heap.size]? = some (.cells #[.int .i64 0, .slice none 0 0] 44 (0, 0))) := by rw [← HWA.out]; exact heap_alloc_new w _
  have hca := h.below hba
  have HL : Hid (Calls Tryd.prog 16 #[.pointer (some ⟨c, 0, none⟩)] wa fun e w' => e = .returned (.int .i64 (ls.length : Int)) ∧ w' = wa) := Len_any hca
  have HA : Hid (Calls Tryd.prog 20 #[.pointer (some ⟨c, 0, none⟩), .int .i64 (ls.length : Int)] wa fun e w' => ∃ u, e = .returned (.tuple #[.agg #[.int .i64 (ls.length : Int), u], .bool true]) ∧ w'.ownsRow wa.heap.size 5 1 u l.length (ints .u8 l) ∧ Below wa.heap.size wa w') := At_at hca ls.length l (Nat.le_refl _) hl hm
  have HBA : Hid (Below w.heap.size w wa ∧ w.heap.size < wa.heap.size) := ⟨hba, (Array.getElem?_eq_some_iff.1 HZ.out).1⟩
  clear h hca hba hl
  generalize ls.length = n at *
  go_enter Tryd.func17, Tryd.ntmps17
  go_wp2_with fail
  rw [HWA.out]
  refine HL.out.mono ?_
  rintro e w1 ⟨rfl, hw⟩
  obtain rfl : wa = w1 := hw.symm
  go_wp2_with fail
  refine HA.out.mono ?_
  rintro e w2 ⟨u, rfl, ho, hb⟩
  have HZ2 : w2.heap[w.heap.size]? = some (.cells #[.int .i64 0, .slice none 0 0] 44 (0, 0)) := (hb.block _ HBA.out.2).trans HZ.out
  have HO : Hid (w2.ownsRow (w.heap.size + 1) 5 1 u l.length (ints .u8 l)) := own_older ho HBA.out.2
  have HB : Hid (Below w.heap.size w w2) := HBA.out.1.trans (hb.mono HBA.out.1.size)
  obtain ⟨uq, uc, rfl⟩ := own_slice ho
  obtain ⟨w3, HW3⟩ : ∃ w3, Hid (w2.alloc (.cells #[.int .i64 (n : Int), .slice uq l.length uc] 44) = w3) := ⟨_, rfl⟩
  have hb3 : Below w2.heap.size w2 w3 := by rw [← HW3.out]; exact below_alloc' w2 _
  have HZ3 : Hid (w3.heap[w.heap.size]? = some (.cells #[.int .i64 0, .slice none 0 0] 44 (0, 0))) := (hb3.block _ (Array.getElem?_eq_some_iff.1 HZ2).1).trans HZ2
  have hz3 : w3.heap[w2.heap.size]? = some (.cells #[.int .i64 (n : Int), .slice uq l.length uc] 44 (0, 0)) := by rw [← HW3.out]; exact heap_alloc_new w2 _
  have z0 : (w2.alloc (.cells #[.int .i64 (n : Int), .slice uq l.length uc] 44)).cell? ⟨w2.heap.size, 0, none⟩ = some (.int .i64 (n : Int)) := by rw [HW3.out, cell_of_row _ _ _ _ _ _ hz3]; rfl
  have z1 : (w2.alloc (.cells #[.int .i64 (n : Int), .slice uq l.length uc] 44)).cell? ⟨w2.heap.size, 1, none⟩ = some (.slice uq l.length uc) := by rw [HW3.out, cell_of_row _ _ _ _ _ _ hz3]; rfl
  have x0 : (w2.alloc (.cells #[.int .i64 (n : Int), .slice uq l.length uc] 44)).cell? ⟨w.heap.size, 0, none⟩ = some (.int .i64 0) := by rw [HW3.out, cell_of_row _ _ _ _ _ _ HZ3.out]; rfl
  have y0 : (w2.alloc (.cells #[.int .i64 (n : Int), .slice uq l.length uc] 44)).frozen? ⟨w.heap.size, 0, none⟩ = false := by rw [HW3.out]; exact frozen_of_row _ _ _ _ _ HZ3.out
  have x1 : (w2.alloc (.cells #[.int .i64 (n : Int), .slice uq l.length uc] 44)).cell? ⟨w.heap.size, 1, none⟩ = some (.slice none 0 0) := by rw [HW3.out, cell_of_row _ _ _ _ _ _ HZ3.out]; rfl
  have y1 : (w2.alloc (.cells #[.int .i64 (n : Int), .slice uq l.length uc] 44)).frozen? ⟨w.heap.size, 1, none⟩ = false := by rw [HW3.out]; exact frozen_of_row _ _ _ _ _ HZ3.out
  have HO3 : Hid (w3.ownsRow (w.heap.size + 1) 5 1 (.slice uq l.length uc) l.length (ints .u8 l)) := own_only HO.out (Only.of_below hb3 []) (fun _ _ => by simp)
  have HB3 : Hid (Below w.heap.size w w3) := HB.out.trans (hb3.mono HB.out.size)
  clear ho hb HA HL HZ HZ2 hb3 hz3 HO HB
  generalize hll : l.length = ll at *
  go_wp2_with fail
  rw [HW3.out]
  refine bodyPost_ret (results_cell_row rfl _ _ w.heap.size 44 _ (0, 0) _ rfl (row_two HZ3.out _ _) Tryd.underlying44 rfl (by kernel_rfl)) rfl ⟨_, rfl, ?_, ?_⟩
  · rw [hll]
    refine own_older (own_only (own_only HO3.out (Only.setCell (bs := [w.heap.size]) _ ⟨w.heap.size, 0, none⟩ _ (by simp)) (own_off HO3.out (by simp))) (Only.setCell (bs := [w.heap.size]) _ ⟨w.heap.size, 1, none⟩ _ (by simp)) (own_off HO3.out (by simp))) (Nat.le_succ _)
  · exact (HB3.out.setCell (p := ⟨w.heap.size, 0, none⟩) (Nat.le_refl _) _).setCell (p := ⟨w.heap.size, 1, none⟩) (Nat.le_refl _) _
end
end Go.Proofs.YtkiohhkmlpgdoaaDoor.S7
