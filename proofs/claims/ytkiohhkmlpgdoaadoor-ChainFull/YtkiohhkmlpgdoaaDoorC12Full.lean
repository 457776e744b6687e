/- The walk of ChainFull. -/
import Derived.Test.YtkiohhkmlpgdoaaDoorC12Anc
import Derived.Test.YtkiohhkmlpgdoaaDoorC12FullV
import Derived.BigRegion
namespace Go.Proofs.YtkiohhkmlpgdoaaDoor.S7
open Go.RowKit Rg
attribute [local go_sem] Go.wp_at_zero Go.wp_at_succ
theorem cf17 (vs : Array Value) (w : World) : (callFunc 17 vs).run Tryd.prog w = .ok (.enter 17 vs) w := by kernel_rfl
/-- A guarded call of a function, as one step of a region that draws. -/
theorem step_call1g {P : Program} {ops : Array Oper} {o : Oper} {a : Act} {w : World} {K : Act → World → Prop} {Q : Exit → Act → World → Prop} {E : Prop} (hw : Region.wanted o (yielded ops a.tmps) = true) (f : FuncId) (hcf : ∀ vs w, (callFunc f vs).run P w = .ok (.enter f vs) w) (x0 : Operand) (ts : Array TypeId)
    (hop : o.op = Op.call { callee := Callee.value (Operand.func f), args := #[x0], argTypes := ts }) (v0 : Value) (hv0 : a.eval x0 = v0)
    (h : Calls P f #[v0] w fun e w' => ∃ v, e = .returned v ∧ K (a.put o.dst v) w') :
    if Region.wanted o (yielded ops a.tmps) = true then Oper.wp P o a w K Q else E := by
  rw [if_pos hw]
  have hr : (execOp a.eval o).run P w = .ok (.enter f #[v0]) w := by
    unfold execOp
    simp only [hop]
    have hf : a.eval (.func f) = .func (Fn.func f) #[] #[] := rfl
    generalize a.eval = r at *
    simp [go_sem, hcf, hv0, hf]
  unfold Oper.wp
  rw [hr]
  exact h.mono (by rintro e w' ⟨v, rfl, hk⟩; exact hk)
set_option maxHeartbeats 4000000 in
theorem full_out (w : World) (n b : Int) (h : n < 0 ∨ 80 < n) : Calls Tryd.prog 8 #[.int .i64 n, .int .u8 b] w fun e w' => e = .returned (.bool true) ∧ Below w.heap.size w w' := by
  by_cases h0 : n < 0
  · clear h
    go_enter Tryd.func8, Tryd.ntmps8
    go_wp2_with fail
    refine (anchor_any w).mono ?_
    rintro e w1 ⟨rfl, hb1⟩
    have HB1 : Hid (Below w.heap.size w w1) := hb1
    clear hb1
    go_wp2_with fail
    go_ret
    exact ⟨rfl, HB1.out⟩
  · have h1 : 80 < n := by omega
    clear h
    go_enter Tryd.func8, Tryd.ntmps8
    go_wp2_with fail
    refine (anchor_any w).mono ?_
    rintro e w1 ⟨rfl, hb1⟩
    have HB1 : Hid (Below w.heap.size w w1) := hb1
    clear hb1
    go_wp2_with fail
    go_ret
    exact ⟨rfl, HB1.out⟩
set_option maxHeartbeats 16000000 in
set_option maxRecDepth 20000 in
theorem full_main (w : World) (n b : Nat) (hn : n ≤ 80) (hb : b < 256) : Calls Tryd.prog 8 #[.int .i64 (n : Int), .int .u8 (b : Int)] w fun e w' => e = .returned (.bool true) ∧ Below w.heap.size w w' := by
  have q1 : ¬ ((n : Int) < 0) := by omega
  have q2 : ¬ (80 < (n : Int)) := by omega
  obtain ⟨B, hBe⟩ : ∃ B, B = w.heap.size := ⟨_, rfl⟩
  have HBE : Hid (B = w.heap.size) := hBe
  rw [← hBe]
  clear hBe
  have HBB : Hid (b < 256) := hb
  clear hb
  go_enter Tryd.func8, Tryd.ntmps8
  go_wp2_with fail
  refine (anchor_any w).mono ?_
  rintro e w1 ⟨rfl, hb1⟩
  rw [← HBE.out] at hb1
  have G1 : Hid (Below B w w1 ∧ B ≤ w1.heap.size) := ⟨hb1, by have := hb1.size; rw [HBE.out]; exact this⟩
  clear hb1
  go_wp2_with fail
  refine (Signs_new w1).mono ?_
  rintro e w2 ⟨p, q, m, x, rfl, hs, hb⟩
  have G2 : Hid (Sw B w2 p q m x [] ∧ Below B w w2 ∧ B ≤ w2.heap.size) := ⟨⟨hs.su, by have := hs.lo; have := G1.out.2; omega⟩, G1.out.1.trans (hb.mono G1.out.2), Nat.le_trans G1.out.2 hb.size⟩
  clear hs hb G1
  go_wp2_with fail
  refine (one_new (n := 1) G2.out.1 (by simp) G2.out.2.2 (by omega)).mono ?_
  rintro e w3 ⟨c, rfl, ho, hk⟩
  have G3 : Hid (One B w3 p q m x c L1 [] [r0] ∧ Below B w w3 ∧ B ≤ w3.heap.size) := ⟨ho, G2.out.2.1.trans hk.low, Nat.le_trans G2.out.2.2 hk.low.size⟩
  clear ho hk G2
  go_wp2_with fail
  go_loopw [26] (fun i wr => ∃ (j : Nat) (L : List Su.Thing) (ls ss : List (List Nat)), j ≤ n ∧ i = .int .i64 j ∧ Hid (One B wr p q m x c L ls ss ∧ Below B w wr ∧ B ≤ wr.heap.size) ∧ Hid (Chn L 1 ls ss ∧ ls.length = min j 64 ∧ L.length ≤ j + 1)) (fun i _ => n - (intOf i).toNat)
  case atStart => exact ⟨0, L1, [], [r0], by omega, rfl, G3.out, Chn.new [] 1, rfl, lens.1⟩
  case round =>
    obtain ⟨j, L, ls, ss, hj, rfl, GJ, HC⟩ := hrel
    clear G3
    have j0 : (0 : Int) ≤ (j : Int) := by omega
    by_cases hlt : j < n
    · have j1 : (j : Int) < (n : Int) := by omega
      obtain ⟨l, hl⟩ := HC.out.1.last
      have hl32 := (HC.out.1.size hl).1
      have HLS : Hid (∀ y ∈ l, y < 256) := (HC.out.1.size hl).2
      go_wp2_with fail
      refine (one_head GJ.out.1 hl (by omega)).mono ?_
      rintro e w5 ⟨u, rfl, ho, hb5⟩
      rw [hl32] at ho
      obtain ⟨uq, uc, rfl⟩ := own_slice ho
      obtain ⟨w6, HW6⟩ : ∃ w6, Hid (w5.alloc (.cells #[.int .i64 (ls.length : Int), .slice uq 32 uc] 44) = w6) := ⟨_, rfl⟩
      have hb6 : Below w5.heap.size w5 w6 := by rw [← HW6.out]; exact below_alloc' w5 _
      have hz6 : w6.heap[w5.heap.size]? = some (.cells #[.int .i64 (ls.length : Int), .slice uq 32 uc] 44 (0, 0)) := by rw [← HW6.out]; exact heap_alloc_new w5 _
      have hbw : Below wr.heap.size wr w6 := hb5.trans (hb6.mono hb5.size)
      obtain ⟨gd, hgd⟩ : ∃ gd, gd = w5.heap.size := ⟨_, rfl⟩
      rw [← hgd] at hz6
      have G6 : Hid (((One B w6 p q m x c L ls ss ∧ Below B w w6 ∧ B ≤ w6.heap.size) ∧ w6.heap[gd]? = some (.cells #[.int .i64 (ls.length : Int), .slice uq 32 uc] 44 (0, 0))) ∧ By B w6 (.slice uq 32 uc) l) := ⟨⟨⟨GJ.out.1.below hbw, GJ.out.2.1.trans (hbw.mono GJ.out.2.2), Nat.le_trans GJ.out.2.2 hbw.size⟩, hz6⟩, (By.own HLS.out ho).below hb6⟩
      clear ho hb5 hb6 hz6 hbw GJ
      have cvj : IntKind.u8.wrap (j : Int) = (j : Int) := by unfold IntKind.wrap; simp [IntKind.signed, IntKind.bits]; omega
      go_wp2_with fail
      rw [HW6.out]
      have hs6 : w6.heap.size = gd + 1 := by rw [← HW6.out, hgd]; simp
      rw [← hgd]
      rw [← hs6]
      obtain ⟨w7, HW7⟩ : ∃ w7, Hid (w6.alloc (.cells #[.int .u8 (b : Int), .int .u8 (j : Int)] 5) = w7) := ⟨_, rfl⟩
      have hb7 : Below w6.heap.size w6 w7 := by rw [← HW7.out]; exact below_alloc' w6 _
      have hz7 : w7.heap[w6.heap.size]? = some (.cells #[.int .u8 (b : Int), .int .u8 (j : Int)] 5 (0, 0)) := by rw [← HW7.out]; exact heap_alloc_new w6 _
      have hy7 : By B w7 (.slice (some ⟨w6.heap.size, 0, none⟩) 2 2) [b, j] := ⟨fun y hy => (List.mem_cons.1 hy).elim (fun e => by rw [e]; exact HBB.out) (fun e => by rw [List.mem_singleton.1 e]; omega), .inr (.inr ⟨w6.heap.size, 0, 2, rfl, by simp, rangeAt_of_row (t := 5) (fr := (0, 0)) hz7, .inr ⟨_, _, hz7⟩⟩)⟩
      have G7 : Hid ((((One B w7 p q m x c L ls ss ∧ Below B w w7 ∧ B ≤ w7.heap.size) ∧ w7.heap[gd]? = some (.cells #[.int .i64 (ls.length : Int), .slice uq 32 uc] 44 (0, 0))) ∧ By B w7 (.slice uq 32 uc) l) ∧ By B w7 (.slice (some ⟨w6.heap.size, 0, none⟩) 2 2) [b, j]) := ⟨⟨⟨⟨G6.out.1.1.1.below hb7, G6.out.1.1.2.1.trans (hb7.mono G6.out.1.1.2.2), Nat.le_trans G6.out.1.1.2.2 hb7.size⟩, (hb7.block gd (Array.getElem?_eq_some_iff.1 G6.out.1.2).1).trans G6.out.1.2⟩, G6.out.2.below hb7⟩, hy7⟩
      rw [HW7.out]
      obtain ⟨g7, hg7⟩ : ∃ g7, g7 = w6.heap.size := ⟨_, rfl⟩
      rw [← hg7] at G7 ⊢
      clear hb7 hz7 hy7 HW7 HW6 G6 hs6 hg7
      have HMS : Hid (ss.length ≤ 1000 ∧ L.length < 1000000) := ⟨by rw [HC.out.1.len, HC.out.2.1]; omega, by have := HC.out.2.2; omega⟩
      by_cases h64 : j < 64
      · have hll : ls.length < 64 := by rw [HC.out.2.1]; omega
        refine (one_append G7.out.1.1.1.1 HMS.out.2 G7.out.2 (by omega) hll hl (by omega) HMS.out.1).mono ?_
        rintro e w8 ⟨rfl, ho, hk⟩
        have G8 : Hid (One B w8.drew p q m x c (ad L (l ++ [b, j])) (ls ++ [[b, j]]) (ss ++ [sg L (l ++ [b, j])]) ∧ Below B w w8.drew ∧ B ≤ w8.drew.heap.size) := ⟨ho.below (below_drewN 1 _ _), (G7.out.1.1.1.2.1.trans hk.low).trans (below_drewN 1 _ _), Nat.le_trans G7.out.1.1.1.2.2 hk.low.size⟩
        have HC8 : Hid (Chn (ad L (l ++ [b, j])) 1 (ls ++ [[b, j]]) (ss ++ [sg L (l ++ [b, j])]) ∧ (ls ++ [[b, j]]).length = min (j + 1) 64 ∧ (ad L (l ++ [b, j])).length ≤ j + 1 + 1) := ⟨HC.out.1.push hl, by rw [List.length_append, HC.out.2.1]; simp; omega, Nat.le_trans (ad_length _ _) (Nat.succ_le_succ HC.out.2.2)⟩
        clear ho hk G7 HC hl hll HLS hl32
        have k1 : (j : Int) < 64 := by omega
        have k2 : decide ((64 : Int) ≤ (j : Int)) = false := decide_eq_false (by omega)
        go_wp2_with fail
        go_region
        all_goals go_wp2_with fail
        all_goals refine ⟨⟨j + 1, _, _, _, by omega, by simp, G8, HC8⟩, ?_⟩
        all_goals simp only [intOf]
        all_goals omega
      · have hll : ls.length = 64 := by rw [HC.out.2.1]; omega
        have HLL : Hid (ls.length = 64) := hll
        obtain ⟨lv, sv, hch⟩ := G7.out.1.1.1.1.ch
        refine (Append_full B c p lv sv ls ss w7 _ 2 2 hch (by omega) (by omega)).mono ?_
        rintro e w8 ⟨rfl, hw⟩
        obtain rfl : w7 = w8 := hw.symm
        clear hch hw
        have HH : Hid (∀ w', Below w7.heap.size w7 w' → Calls Tryd.prog 17 #[.pointer (some ⟨c, 0, none⟩)] w' fun e w'' => ∃ u, e = .returned (.agg #[.int .i64 (ls.length : Int), u]) ∧ w''.ownsRow w'.heap.size 5 1 u 32 (ints .u8 l) ∧ Below w'.heap.size w' w'') := fun w' hb => by
          have := one_head (G7.out.1.1.1.1.below hb) hl (by omega)
          rw [hl32] at this
          exact this
        have HD0 : Hid (∀ w', Below w7.heap.size w7 w' → w'.cell? ⟨gd, 0, none⟩ = some (.int .i64 (ls.length : Int)) ∧ w'.cell? ⟨gd, 1, none⟩ = some (.slice uq 32 uc) ∧ Src w' (.slice uq 32 uc) l) := fun w' hb => by
          have h1 : w'.heap[gd]? = some (.cells #[.int .i64 (ls.length : Int), .slice uq 32 uc] 44 (0, 0)) := (hb.block gd (Array.getElem?_eq_some_iff.1 G7.out.1.1.2).1).trans G7.out.1.1.2
          exact ⟨by rw [cell_of_row _ _ _ _ _ _ h1]; rfl, by rw [cell_of_row _ _ _ _ _ _ h1]; rfl, G7.out.1.2.src.below hb⟩
        have HG : Hid (∀ w', Below w7.heap.size w7 w' → One B w' p q m x c L ls ss ∧ Below B w w' ∧ B ≤ w'.heap.size) := fun w' hb => ⟨G7.out.1.1.1.1.below hb, G7.out.1.1.1.2.1.trans (hb.mono G7.out.1.1.1.2.2), Nat.le_trans G7.out.1.1.1.2.2 hb.size⟩
        have HC8 : Hid (Chn L 1 ls ss ∧ ls.length = min (j + 1) 64 ∧ L.length ≤ j + 1 + 1) := ⟨HC.out.1, by rw [hll]; omega, Nat.le_succ_of_le HC.out.2.2⟩
        have HK1 : Hid (decide ((j : Int) < 64) = false) := decide_eq_false (by omega)
        have HK2 : Hid (decide ((64 : Int) ≤ (j : Int)) = true) := decide_eq_true (by omega)
        clear G7 HC hl hl32 hll h64 hgd
        obtain ⟨nl, hnl⟩ : ∃ nl, nl = ls.length := ⟨_, rfl⟩
        rw [← hnl] at HH HD0 ⊢
        clear hnl
        go_wp2_with fail
        have RB : ∀ k w w', Below w.heap.size w w' → (fun (_ : Nat) (_ : World) => True) k w → (fun (_ : Nat) (_ : World) => True) k w' := fun _ _ _ _ h => h
        refine wp_region_st (rf13 c gd nl j l) (fun u u' => Only [] u u') (SeqS [] (fun (_ : Nat) (_ : World) => True)) (by kernel_rfl) (only_drew _ _) (only_trans _) (rf13_kept c gd nl j l) (by kernel_rfl) (SeqS.start (trivial)) ?_ ?_
        · intro i o a' w' f hi inv hS hfi hfw hpre
          have ho : Only [] w7 w' := inv.grow
          have hlt : i < 32 := (Array.getElem?_eq_some_iff.1 hi).1
          obtain rfl|rfl|rfl|rfl|rfl|rfl|rfl|rfl|rfl|rfl|rfl|rfl|rfl|rfl|rfl|rfl|rfl|rfl|rfl|rfl|rfl|rfl|rfl|rfl|rfl|rfl|rfl|rfl|rfl|rfl|rfl|rfl : i = 0 ∨ i = 1 ∨ i = 2 ∨ i = 3 ∨ i = 4 ∨ i = 5 ∨ i = 6 ∨ i = 7 ∨ i = 8 ∨ i = 9 ∨ i = 10 ∨ i = 11 ∨ i = 12 ∨ i = 13 ∨ i = 14 ∨ i = 15 ∨ i = 16 ∨ i = 17 ∨ i = 18 ∨ i = 19 ∨ i = 20 ∨ i = 21 ∨ i = 22 ∨ i = 23 ∨ i = 24 ∨ i = 25 ∨ i = 26 ∨ i = 27 ∨ i = 28 ∨ i = 29 ∨ i = 30 ∨ i = 31 := by omega
          · obtain rfl := Option.some.inj hi
            exact sq_value _ rfl rfl rfl (Below.refl _ _) (by decide) hS RB (by show a'.tmps.getD 7 undef = _; rw [inv.old 7 (notDst_spec (by kernel_rfl))]; rfl)
          · obtain rfl := Option.some.inj hi
            have h0 : a'.tmps.getD 37 undef = _ := pre_of hpre 0 37 (by kernel_rfl) (by kernel_rfl)
            exact sq_value _ rfl rfl (lssK_run 37 _ 64 rfl h0) (Below.refl _ _) (by decide) hS RB (by show Value.bool _ = _; rw [HK1.out])
          · obtain rfl := Option.some.inj hi
            have h0 := pre_of hpre 1 38 (by kernel_rfl) (by kernel_rfl)
            exact sq_value _ rfl rfl (rfl) (Below.refl _ _) (by decide) hS RB h0
          · obtain rfl := Option.some.inj hi
            have hgu : a'.tmps.getD 39 undef = _ := pre_of hpre 2 39 (by kernel_rfl) (by kernel_rfl)
            exact sq_skip rfl (unwanted_of 2 39 false rfl (by kernel_rfl) hgu) (by decide) hS rfl
          · obtain rfl := Option.some.inj hi
            have hgu : a'.tmps.getD 39 undef = _ := pre_of hpre 2 39 (by kernel_rfl) (by kernel_rfl)
            exact sq_skip rfl (unwanted_of 2 39 false rfl (by kernel_rfl) hgu) (by decide) hS rfl
          · obtain rfl := Option.some.inj hi
            have h0 : a'.tmps.getD 39 undef = _ := pre_of hpre 2 39 (by kernel_rfl) (by kernel_rfl)
            exact sq_value _ rfl rfl (pick_run 39 false _ _ _ _ rfl h0 rfl rfl) (Below.refl _ _) (by decide) hS RB rfl
          · obtain rfl := Option.some.inj hi
            have h0 := pre_of hpre 5 42 (by kernel_rfl) (by kernel_rfl)
            exact sq_value _ rfl rfl (rfl) (Below.refl _ _) (by decide) hS RB h0
          · obtain rfl := Option.some.inj hi
            have hgu : a'.tmps.getD 43 undef = _ := pre_of hpre 6 43 (by kernel_rfl) (by kernel_rfl)
            exact sq_value _ rfl (wanted_of 6 43 false rfl (by kernel_rfl) hgu) rfl (Below.refl _ _) (by decide) hS RB (by show a'.tmps.getD 7 undef = _; rw [inv.old 7 (notDst_spec (by kernel_rfl))]; rfl)
          · obtain rfl := Option.some.inj hi
            have hgu : a'.tmps.getD 43 undef = _ := pre_of hpre 6 43 (by kernel_rfl) (by kernel_rfl)
            have h0 : a'.tmps.getD 44 undef = _ := pre_of hpre 7 44 (by kernel_rfl) (by kernel_rfl)
            exact sq_value _ rfl (wanted_of 6 43 false rfl (by kernel_rfl) hgu) (geqK_run 44 _ 64 rfl h0) (Below.refl _ _) (by decide) hS RB (by show Value.bool _ = _; rw [HK2.out])
          · obtain rfl := Option.some.inj hi
            have hgu : a'.tmps.getD 43 undef = _ := pre_of hpre 6 43 (by kernel_rfl) (by kernel_rfl)
            have h0 := pre_of hpre 8 45 (by kernel_rfl) (by kernel_rfl)
            exact sq_value _ rfl (wanted_of 6 43 false rfl (by kernel_rfl) hgu) (rfl) (Below.refl _ _) (by decide) hS RB h0
          · obtain rfl := Option.some.inj hi
            have hgu : a'.tmps.getD 46 undef = _ := pre_of hpre 9 46 (by kernel_rfl) (by kernel_rfl)
            exact sq_value _ rfl (wanted_of 9 46 true rfl (by kernel_rfl) hgu) rfl (Below.refl _ _) (by decide) hS RB (by show a'.tmps.getD 9 undef = _; rw [inv.old 9 (notDst_spec (by kernel_rfl))]; rfl)
          · obtain rfl := Option.some.inj hi
            have hgu : a'.tmps.getD 46 undef = _ := pre_of hpre 9 46 (by kernel_rfl) (by kernel_rfl)
            have h0 : a'.tmps.getD 47 undef = _ := pre_of hpre 10 47 (by kernel_rfl) (by kernel_rfl)
            exact sq_value _ rfl (wanted_of 9 46 true rfl (by kernel_rfl) hgu) (neqE_run 47 _ 33 rfl h0) (Below.refl _ _) (by decide) hS RB rfl
          · obtain rfl := Option.some.inj hi
            have hgu : a'.tmps.getD 46 undef = _ := pre_of hpre 9 46 (by kernel_rfl) (by kernel_rfl)
            have h0 := pre_of hpre 11 48 (by kernel_rfl) (by kernel_rfl)
            exact sq_value _ rfl (wanted_of 9 46 true rfl (by kernel_rfl) hgu) (rfl) (Below.refl _ _) (by decide) hS RB h0
          · obtain rfl := Option.some.inj hi
            have hgu : a'.tmps.getD 49 undef = _ := pre_of hpre 12 49 (by kernel_rfl) (by kernel_rfl)
            exact sq_value _ rfl (wanted_of 12 49 false rfl (by kernel_rfl) hgu) rfl (Below.refl _ _) (by decide) hS RB (by show a'.tmps.getD 5 undef = _; rw [inv.old 5 (notDst_spec (by kernel_rfl))]; rfl)
          · obtain rfl := Option.some.inj hi
            have hgu : a'.tmps.getD 49 undef = _ := pre_of hpre 12 49 (by kernel_rfl) (by kernel_rfl)
            have h0 : a'.tmps.getD 50 undef = _ := pre_of hpre 13 50 (by kernel_rfl) (by kernel_rfl)
            refine sq_quiet 17 #[a'.tmps.getD 50 undef] rfl (wanted_of 12 49 false rfl (by kernel_rfl) hgu) (by kernel_rfl) (by decide) hS ?_
            rw [h0]
            exact (HH.out w' (ho.below (Nat.le_refl _) (by simp))).mono (by rintro e u ⟨x, rfl, h1, h2⟩; obtain ⟨vq, vc, rfl⟩ := own_slice h1; exact ⟨_, rfl, Only.of_below h2 _, (fun _ _ => trivial), vq, vc, rfl, Src.own HLS.out h1⟩)
          · obtain rfl := Option.some.inj hi
            have hgu : a'.tmps.getD 49 undef = _ := pre_of hpre 12 49 (by kernel_rfl) (by kernel_rfl)
            have h0 := pre_of hpre 14 51 (by kernel_rfl) (by kernel_rfl)
            obtain ⟨vq, vc, he0, hs0⟩ := h0
            exact sq_value _ rfl (wanted_of 12 49 false rfl (by kernel_rfl) hgu) (field0_run 51 _ _ rfl he0) (Below.refl _ _) (by decide) hS RB rfl
          · obtain rfl := Option.some.inj hi
            have hgu : a'.tmps.getD 49 undef = _ := pre_of hpre 12 49 (by kernel_rfl) (by kernel_rfl)
            have h0 : a'.tmps.getD 8 undef = (.pointer (some ⟨gd, 0, none⟩)) := by rw [inv.old 8 (notDst_spec (by kernel_rfl))]; rfl
            exact sq_value _ rfl (wanted_of 12 49 false rfl (by kernel_rfl) hgu) (fa_run 44 0 8 gd rfl h0 (fa44_0 gd)) (Below.refl _ _) (by decide) hS RB rfl
          · obtain rfl := Option.some.inj hi
            have hgu : a'.tmps.getD 49 undef = _ := pre_of hpre 12 49 (by kernel_rfl) (by kernel_rfl)
            have h0 : a'.tmps.getD 53 undef = _ := pre_of hpre 16 53 (by kernel_rfl) (by kernel_rfl)
            exact sq_value _ rfl (wanted_of 12 49 false rfl (by kernel_rfl) hgu) (load_run 3 53 gd (0) _ rfl h0 (ld3 ((HD0.out w' (ho.below (Nat.le_refl _) (by simp))).1))) (Below.refl _ _) (by decide) hS RB rfl
          · obtain rfl := Option.some.inj hi
            have hgu : a'.tmps.getD 49 undef = _ := pre_of hpre 12 49 (by kernel_rfl) (by kernel_rfl)
            have h0 : a'.tmps.getD 52 undef = _ := pre_of hpre 15 52 (by kernel_rfl) (by kernel_rfl)
            have h1 : a'.tmps.getD 54 undef = _ := pre_of hpre 17 54 (by kernel_rfl) (by kernel_rfl)
            exact sq_value _ rfl (wanted_of 12 49 false rfl (by kernel_rfl) hgu) (neqN_run 52 54 _ _ rfl h0 h1) (Below.refl _ _) (by decide) hS RB (by show Value.bool _ = _; simp)
          · obtain rfl := Option.some.inj hi
            have hgu : a'.tmps.getD 46 undef = _ := pre_of hpre 9 46 (by kernel_rfl) (by kernel_rfl)
            have h0 : a'.tmps.getD 49 undef = _ := pre_of hpre 12 49 (by kernel_rfl) (by kernel_rfl)
            have h1 : a'.tmps.getD 55 undef = _ := pre_of hpre 18 55 (by kernel_rfl) (by kernel_rfl)
            exact sq_value _ rfl (wanted_of 9 46 true rfl (by kernel_rfl) hgu) (pick_run 49 false _ _ _ _ rfl h0 rfl h1) (Below.refl _ _) (by decide) hS RB rfl
          · obtain rfl := Option.some.inj hi
            have hgu : a'.tmps.getD 46 undef = _ := pre_of hpre 9 46 (by kernel_rfl) (by kernel_rfl)
            have h0 := pre_of hpre 19 56 (by kernel_rfl) (by kernel_rfl)
            exact sq_value _ rfl (wanted_of 9 46 true rfl (by kernel_rfl) hgu) (rfl) (Below.refl _ _) (by decide) hS RB h0
          · obtain rfl := Option.some.inj hi
            have hgu : a'.tmps.getD 57 undef = _ := pre_of hpre 20 57 (by kernel_rfl) (by kernel_rfl)
            exact sq_value _ rfl (wanted_of 20 57 false rfl (by kernel_rfl) hgu) rfl (Below.refl _ _) (by decide) hS RB (by show a'.tmps.getD 5 undef = _; rw [inv.old 5 (notDst_spec (by kernel_rfl))]; rfl)
          · obtain rfl := Option.some.inj hi
            have hgu : a'.tmps.getD 57 undef = _ := pre_of hpre 20 57 (by kernel_rfl) (by kernel_rfl)
            have h0 : a'.tmps.getD 58 undef = _ := pre_of hpre 21 58 (by kernel_rfl) (by kernel_rfl)
            refine sq_quiet 17 #[a'.tmps.getD 58 undef] rfl (wanted_of 20 57 false rfl (by kernel_rfl) hgu) (by kernel_rfl) (by decide) hS ?_
            rw [h0]
            exact (HH.out w' (ho.below (Nat.le_refl _) (by simp))).mono (by rintro e u ⟨x, rfl, h1, h2⟩; obtain ⟨vq, vc, rfl⟩ := own_slice h1; exact ⟨_, rfl, Only.of_below h2 _, (fun _ _ => trivial), vq, vc, rfl, Src.own HLS.out h1⟩)
          · obtain rfl := Option.some.inj hi
            have hgu : a'.tmps.getD 57 undef = _ := pre_of hpre 20 57 (by kernel_rfl) (by kernel_rfl)
            have h0 := pre_of hpre 22 59 (by kernel_rfl) (by kernel_rfl)
            obtain ⟨vq, vc, he0, hs0⟩ := h0
            exact sq_value _ rfl (wanted_of 20 57 false rfl (by kernel_rfl) hgu) (field1_run 59 _ _ rfl he0) (Below.refl _ _) (by decide) hS RB ⟨hs0, fun _ b _ hb => by cases hb⟩
          · obtain rfl := Option.some.inj hi
            have hgu : a'.tmps.getD 57 undef = _ := pre_of hpre 20 57 (by kernel_rfl) (by kernel_rfl)
            have h0 := pre_of hpre 23 60 (by kernel_rfl) (by kernel_rfl)
            exact sq_value _ rfl (wanted_of 20 57 false rfl (by kernel_rfl) hgu) (conv_run 60 rfl (h0.1)) (Below.refl _ _) (by decide) hS RB rfl
          · obtain rfl := Option.some.inj hi
            have hgu : a'.tmps.getD 57 undef = _ := pre_of hpre 20 57 (by kernel_rfl) (by kernel_rfl)
            have h0 : a'.tmps.getD 8 undef = (.pointer (some ⟨gd, 0, none⟩)) := by rw [inv.old 8 (notDst_spec (by kernel_rfl))]; rfl
            exact sq_value _ rfl (wanted_of 20 57 false rfl (by kernel_rfl) hgu) (fa_run 44 1 8 gd rfl h0 (fa44_1 gd)) (Below.refl _ _) (by decide) hS RB rfl
          · obtain rfl := Option.some.inj hi
            have hgu : a'.tmps.getD 57 undef = _ := pre_of hpre 20 57 (by kernel_rfl) (by kernel_rfl)
            have h0 : a'.tmps.getD 62 undef = _ := pre_of hpre 25 62 (by kernel_rfl) (by kernel_rfl)
            exact sq_value _ rfl (wanted_of 20 57 false rfl (by kernel_rfl) hgu) (load_run 23 62 gd (1) _ rfl h0 (ld23 ((HD0.out w' (ho.below (Nat.le_refl _) (by simp))).2.1))) (Below.refl _ _) (by decide) hS RB (⟨(HD0.out w' (ho.below (Nat.le_refl _) (by simp))).2.2, fun _ b _ hb => by cases hb⟩)
          · obtain rfl := Option.some.inj hi
            have hgu : a'.tmps.getD 57 undef = _ := pre_of hpre 20 57 (by kernel_rfl) (by kernel_rfl)
            have h0 := pre_of hpre 26 63 (by kernel_rfl) (by kernel_rfl)
            exact sq_value _ rfl (wanted_of 20 57 false rfl (by kernel_rfl) hgu) (conv_run 63 rfl (h0.1)) (Below.refl _ _) (by decide) hS RB rfl
          · obtain rfl := Option.some.inj hi
            have hgu : a'.tmps.getD 57 undef = _ := pre_of hpre 20 57 (by kernel_rfl) (by kernel_rfl)
            have h0 : a'.tmps.getD 61 undef = _ := pre_of hpre 24 61 (by kernel_rfl) (by kernel_rfl)
            have h1 : a'.tmps.getD 64 undef = _ := pre_of hpre 27 64 (by kernel_rfl) (by kernel_rfl)
            exact sq_value _ rfl (wanted_of 20 57 false rfl (by kernel_rfl) hgu) (neqS_run 61 64 _ _ rfl h0 h1) (Below.refl _ _) (by decide) hS RB (by show Value.bool _ = _; simp)
          · obtain rfl := Option.some.inj hi
            have hgu : a'.tmps.getD 46 undef = _ := pre_of hpre 9 46 (by kernel_rfl) (by kernel_rfl)
            have h0 : a'.tmps.getD 57 undef = _ := pre_of hpre 20 57 (by kernel_rfl) (by kernel_rfl)
            have h1 : a'.tmps.getD 65 undef = _ := pre_of hpre 28 65 (by kernel_rfl) (by kernel_rfl)
            exact sq_value _ rfl (wanted_of 9 46 true rfl (by kernel_rfl) hgu) (pick_run 57 false _ _ _ _ rfl h0 rfl h1) (Below.refl _ _) (by decide) hS RB rfl
          · obtain rfl := Option.some.inj hi
            have hgu : a'.tmps.getD 43 undef = _ := pre_of hpre 6 43 (by kernel_rfl) (by kernel_rfl)
            have h0 : a'.tmps.getD 46 undef = _ := pre_of hpre 9 46 (by kernel_rfl) (by kernel_rfl)
            have h1 : a'.tmps.getD 66 undef = _ := pre_of hpre 29 66 (by kernel_rfl) (by kernel_rfl)
            exact sq_value _ rfl (wanted_of 6 43 false rfl (by kernel_rfl) hgu) (pick_run 46 true _ _ _ _ rfl h0 h1 rfl) (Below.refl _ _) (by decide) hS RB rfl
          · obtain rfl := Option.some.inj hi
            have h0 : a'.tmps.getD 43 undef = _ := pre_of hpre 6 43 (by kernel_rfl) (by kernel_rfl)
            have h1 : a'.tmps.getD 67 undef = _ := pre_of hpre 30 67 (by kernel_rfl) (by kernel_rfl)
            exact sq_value _ rfl rfl (pick_run 43 false _ _ _ _ rfl h0 rfl h1) (Below.refl _ _) (by decide) hS RB rfl
        · intro a' w9 f inv hS hall hd
          have hk31 := hd 31 68 (by kernel_rfl)
          have ho : Only [] w7 w9 := inv.grow
          have hdf : a'.defers = [] := inv.defers
          have hsz : a'.tmps.size = 75 := inv.size
          have e := frame8_13 hsz (fun t ht => inv.old t (dstsIn_spec (ts := [37, 38, 39, 40, 41, 42, 43, 44, 45, 46, 47, 48, 49, 50, 51, 52, 53, 54, 55, 56, 57, 58, 59, 60, 61, 62, 63, 64, 65, 66, 67, 68]) (by kernel_rfl) t ht))
          have hR := hS.done (fun c hc => hall c (show c < 32 by simp at hc <;> omega))
          clear inv hd hsz hall hS
          obtain ⟨tmps, defers⟩ := a'
          obtain rfl : defers = [] := hdf
          replace e : tmps = _ := e
          replace hk31 : tmps.getD 68 undef = (.bool false) := hk31
          generalize tmps.getD 37 undef = x37 at *
          generalize tmps.getD 38 undef = x38 at *
          generalize tmps.getD 39 undef = x39 at *
          generalize tmps.getD 40 undef = x40 at *
          generalize tmps.getD 41 undef = x41 at *
          generalize tmps.getD 42 undef = x42 at *
          generalize tmps.getD 43 undef = x43 at *
          generalize tmps.getD 44 undef = x44 at *
          generalize tmps.getD 45 undef = x45 at *
          generalize tmps.getD 46 undef = x46 at *
          generalize tmps.getD 47 undef = x47 at *
          generalize tmps.getD 48 undef = x48 at *
          generalize tmps.getD 49 undef = x49 at *
          generalize tmps.getD 50 undef = x50 at *
          generalize tmps.getD 51 undef = x51 at *
          generalize tmps.getD 52 undef = x52 at *
          generalize tmps.getD 53 undef = x53 at *
          generalize tmps.getD 54 undef = x54 at *
          generalize tmps.getD 55 undef = x55 at *
          generalize tmps.getD 56 undef = x56 at *
          generalize tmps.getD 57 undef = x57 at *
          generalize tmps.getD 58 undef = x58 at *
          generalize tmps.getD 59 undef = x59 at *
          generalize tmps.getD 60 undef = x60 at *
          generalize tmps.getD 61 undef = x61 at *
          generalize tmps.getD 62 undef = x62 at *
          generalize tmps.getD 63 undef = x63 at *
          generalize tmps.getD 64 undef = x64 at *
          generalize tmps.getD 65 undef = x65 at *
          generalize tmps.getD 66 undef = x66 at *
          generalize tmps.getD 67 undef = x67 at *
          generalize tmps.getD 68 undef = x68 at *
          simp only [Array.getD_eq_getD_getElem?, List.getElem?_toArray, List.getElem?_cons_succ, List.getElem?_cons_zero, Option.getD_some] at e
          subst e
          subst hk31
          have GH : Hid (One B w9 p q m x c L ls ss ∧ Below B w w9 ∧ B ≤ w9.heap.size) := HG.out w9 (ho.below (Nat.le_refl _) (by simp))
          clear HG HH HD0
          go_wp2_with fail
          refine ⟨⟨j + 1, _, _, _, by omega, by simp, GH, HC8⟩, ?_⟩
          simp only [intOf]
          omega
    · obtain rfl : j = n := by omega
      have j1 : ¬ (j : Int) < (j : Int) := by omega
      go_wp2_with fail
      refine (one_len GJ.out.1).mono ?_
      rintro e w5 ⟨rfl, hw⟩
      obtain rfl : wr = w5 := hw.symm
      have hmn : ((ls.length : Int) == min (j : Int) 64) = true := by rw [HC.out.2.1]; simp; omega
      go_wp2_with fail
      go_ret
      exact ⟨rfl, GJ.out.2.1⟩
end Go.Proofs.YtkiohhkmlpgdoaaDoor.S7
