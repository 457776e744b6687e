/- The document's policy as a value of nineteen cells; the contract of its readers. -/
import Derived.Test.YtmlnbbggfjgacaaE9RWL
namespace Go.Proofs.Ytmlnbbggfjgacaa.P10
open Go.RowKit C8 E9
/-- The document's policy: founder, epoch, the rights of 0 to 16. -/
def RpL (f e : Int) (R : Int → Int) : List Value := .int .i64 f :: .int .i64 e :: (List.range 17).map (fun k : Nat => Value.int .i64 (R (k : Int)))
section
variable {f e : Int} {R R' : Int → Int}
theorem rpl_length : (RpL f e R).length = 19 := by simp [RpL]
theorem rpl_at {k : Nat} (h : k ≤ 16) : (RpL f e R)[2 + k]? = some (.int .i64 (R k)) := by
  rw [show 2 + k = k + 1 + 1 from by omega]
  simp only [RpL, List.getElem?_cons_succ]
  rw [List.getElem?_map, List.getElem?_range (by omega)]
  rfl
theorem rpl_congr (h : ∀ k : Nat, k ≤ 16 → R k = R' k) : RpL f e R = RpL f e R' := by
  unfold RpL
  congr 2
  apply List.map_congr_left
  intro k hk
  rw [h k (by have := List.mem_range.1 hk; omega)]
theorem rpl_set {k : Nat} (h : k ≤ 16) (x : Int) : (RpL f e R).set (2 + k) (.int .i64 x) = RpL f e (fun y => if y = (k : Int) then x else R y) := by
  apply List.ext_getElem?
  intro i
  rw [List.getElem?_set]
  by_cases hi : 2 + k = i
  · subst hi
    rw [if_pos rfl, if_pos (by rw [rpl_length]; omega), rpl_at h, if_pos rfl]
  · rw [if_neg hi]
    by_cases h2 : i < 2
    · obtain rfl | rfl : i = 0 ∨ i = 1 := by omega
      · rfl
      · rfl
    · by_cases h19 : i < 19
      · obtain ⟨j, rfl⟩ : ∃ j, i = 2 + j := ⟨i - 2, by omega⟩
        rw [rpl_at (by omega), rpl_at (by omega), if_neg (by omega)]
      · rw [List.getElem?_eq_none (by rw [rpl_length]; omega), List.getElem?_eq_none (by rw [rpl_length]; omega)]
theorem rpl_set1 (x : Int) : (RpL f e R).set 1 (.int .i64 x) = RpL f x R := rfl
theorem rpl_one : ∀ v ∈ RpL f e R, v.oneCell' = true := fun v hv => by
  unfold RpL at hv
  rcases List.mem_cons.1 hv with rfl | hv
  · rfl
  · rcases List.mem_cons.1 hv with rfl | hv
    · rfl
    · obtain ⟨k, _, rfl⟩ := List.mem_map.1 hv
      rfl
end
/-- A document's policy in a box. -/
def RpAt (w : World) (b : Nat) (f e : Int) (R : Int → Int) : Prop := w.heap[b]? = some (.cells (RpL f e R).toArray 32 (0, 0))
section
variable {w w' : World} {b : Nat} {f e : Int} {R R' : Int → Int}
theorem RpAt.lt (h : RpAt w b f e R) : b < w.heap.size := (Array.getElem?_eq_some_iff.1 h).1
theorem RpAt.below (h : RpAt w b f e R) (hb : Below w.heap.size w w') : RpAt w' b f e R := (hb.block _ h.lt).trans h
theorem RpAt.cf (h : RpAt w b f e R) : w.cell? ⟨b, 0, none⟩ = some (.int .i64 f) := by rw [cell_of_row _ _ _ _ _ _ h]; rfl
theorem RpAt.ce (h : RpAt w b f e R) : w.cell? ⟨b, 1, none⟩ = some (.int .i64 e) := by rw [cell_of_row _ _ _ _ _ _ h]; rfl
theorem RpAt.atk (h : RpAt w b f e R) (k : Nat) (hk : k ≤ 16) : w.cell? ⟨b, 2 + k, none⟩ = some (.int .i64 (R k)) := by
  rw [cell_of_row _ _ _ _ _ _ h, List.getElem?_toArray, rpl_at hk]
theorem RpAt.thaw (h : RpAt w b f e R) (k : Nat) : w.frozen? ⟨b, k, none⟩ = false := frozen_of_row _ _ _ _ _ h
theorem RpAt.row (h : RpAt w b f e R) : w.rangeAt b 0 (RpL f e R) := rangeAt_of_row h
theorem RpAt.new (w : World) (f e : Int) (R : Int → Int) : RpAt (w.alloc (.cells (RpL f e R).toArray 32)) w.heap.size f e R := heap_alloc_new w _
theorem RpAt.set (h : RpAt w b f e R) (k : Nat) (hk : k ≤ 16) (x : Int) : RpAt (w.setCell ⟨b, 2 + k, none⟩ (.int .i64 x)) b f e (fun y => if y = (k : Int) then x else R y) := by
  have := heap_setCell_same w b (2 + k) _ 32 (.int .i64 x) h
  rw [List.setIfInBounds_toArray, rpl_set hk] at this
  exact this
theorem RpAt.set1 (h : RpAt w b f e R) (x : Int) : RpAt (w.setCell ⟨b, 1, none⟩ (.int .i64 x)) b f x R := by
  have := heap_setCell_same w b 1 _ 32 (.int .i64 x) h
  rw [List.setIfInBounds_toArray, rpl_set1] at this
  exact this
theorem RpAt.put (h : RpAt w b f e R) (f' e' : Int) : RpAt (w.setCells b 0 (RpL f' e' R')) b f' e' R' := by
  have := heap_setCells b 32 (RpL f' e' R') 0 w (RpL f e R) h (by rw [rpl_length, rpl_length]; omega)
  rw [List.take_zero, List.nil_append, rpl_length, List.drop_of_length_le (by rw [rpl_length]; omega), List.append_nil] at this
  exact this
theorem RpAt.there (h : RpAt w b f e R) : w.there b 0 19 := there_of_row h 19 (by rw [List.size_toArray, rpl_length]; omega)
end
/-- Who may read, from s on, m numbers. -/
def rdG (R : Int → Int) : Nat → Int → List Int
  | 0, _ => []
  | m + 1, s => (if R s % 2 = 0 then [] else [s]) ++ rdG R m (s + 1)
theorem rdG_succ (R : Int → Int) (m : Nat) (s : Int) : rdG R (m + 1) s = if R s % 2 = 0 then rdG R m (s + 1) else s :: rdG R m (s + 1) := by
  rw [rdG]
  by_cases h : R s % 2 = 0
  · rw [if_pos h, if_pos h]; rfl
  · rw [if_neg h, if_neg h]; rfl
set_option maxHeartbeats 4000000 in
theorem rreaders_any (f e : Int) (R : Int → Int) (ws : List (Int × List Nat)) (q : Option Addr) (c : Nat) (w : World) (h : WrRow w q ws) (hl : ws.length ≤ 100000) (hR : ∀ x, 0 ≤ R x ∧ R x ≤ 7) :
    Calls Try.prog 31 #[.agg (RpL f e R).toArray, .slice q ws.length c] w fun x w' => x = .returned (.bool (decide (ws.map (·.1) = rdG R 16 1))) ∧ Below w.heap.size w w' := by
  have HA : Hid (WrRow w q ws) := h
  have HB0 : Hid (Below w.heap.size w (w.alloc (.cells (RpL f e R).toArray 32)) ∧ RpAt (w.alloc (.cells (RpL f e R).toArray 32)) w.heap.size f e R) := ⟨bel_alloc (Nat.le_refl _) _, RpAt.new w f e R⟩
  obtain ⟨n, HN⟩ : ∃ n, Hid (ws.length = n) := ⟨_, rfl⟩
  obtain ⟨res, HRS⟩ : ∃ res, Hid (decide (ws.map (·.1) = rdG R 16 1) = res) := ⟨_, rfl⟩
  rw [HN.out] at hl
  rw [HN.out, HRS.out]
  clear h
  have l1 : (n : Int) ≤ 100000 := by omega
  have HRR : Hid (∀ x, 0 ≤ R x ∧ R x ≤ 7) := hR
  clear hR
  generalize (RpL f e R).toArray = C at *
  go_enter Try.func31, Try.ntmps31
  go_wp2_with fail
  generalize w.alloc (.cells C 32) = W0 at *
  go_loopw [5, 6] (fun i s wr => ∃ (j k : Nat), j ≤ n ∧ k ≤ 16 ∧ i = .int .i64 j ∧ s = .int .i64 (k + 1) ∧ Hid (Below w.heap.size w wr ∧ RpAt wr w.heap.size f e R) ∧ Hid (decide ((ws.map (·.1)).drop j = rdG R (16 - k) (k + 1)) = res)) (fun _ s _ => 17 - (intOf s).toNat)
  case atStart => exact ⟨0, 0, by omega, by omega, rfl, rfl, HB0, by rw [List.drop_zero]; exact HRS.out⟩
  case round =>
    obtain ⟨j, k, hj, hk, rfl, rfl, HB, HE⟩ := hrel
    clear HB0
    have j0 : (0 : Int) ≤ (j : Int) := by omega
    have k0 : (0 : Int) ≤ (k : Int) := by omega
    have k16 : (k : Int) ≤ 16 := by omega
    have jn : (j : Int) ≤ (n : Int) := by omega
    have HBW : Hid (Below w.heap.size w wr) := HB.out.1
    by_cases hk3 : k < 16
    · have k1 : (k : Int) + 1 ≤ 16 := by omega
      have k17 : (k : Int) + 1 < 17 := by omega
      obtain ⟨m, HM⟩ : ∃ m, Hid (16 - k = m + 1) := ⟨15 - k, by show _ = _; omega⟩
      have HE2 := HE.out
      rw [HM.out, rdG_succ] at HE2
      have HD : wr.cell? ⟨w.heap.size, 2 + (k + 1), none⟩ = some (.int .i64 (R (k + 1))) := by
        have := HB.out.2.atk (k + 1) (by omega)
        rw [this]
        rfl
      have HRK := HRR.out ((k : Int) + 1)
      by_cases hz : R ((k : Int) + 1) % 2 = 0
      · rw [if_pos hz] at HE2
        have HE3 : Hid (decide ((ws.map (·.1)).drop j = rdG R (16 - (k + 1)) (((k + 1 : Nat) : Int) + 1)) = res) := by
          rw [show 16 - (k + 1) = m from by have := HM.out; omega]
          exact HE2
        generalize R ((k : Int) + 1) = r at *
        have r0 : 0 ≤ r := HRK.1
        have r7 : r ≤ 7 := HRK.2
        clear HE HE2 HRK HA
        go_wp2_with fail
        refine ⟨⟨j, k + 1, by omega, by omega, rfl, by simp, HB, HE3⟩, ?_⟩
        simp only [intOf]
        omega
      · rw [if_neg hz] at HE2
        by_cases hlt : j < n
        · have ja : j < ws.length := by rw [HN.out]; exact hlt
          obtain ⟨b, o, bp, bc, rfl, g2, g3, g4, g5, g6⟩ := HA.out j ja
          have d0 := (HBW.out.cell (p := ⟨b, o + j * 2, none⟩) g2).trans g3
          have j1 : (j : Int) < (n : Int) := by omega
          have HDR : (ws.map (·.1)).drop j = ws[j].1 :: (ws.map (·.1)).drop (j + 1) := by
            rw [List.drop_eq_getElem_cons (by simpa using ja), List.getElem_map]
          rw [HDR] at HE2
          by_cases hx : ws[j].1 = (k : Int) + 1
          · have HE3 : Hid (decide ((ws.map (·.1)).drop (j + 1) = rdG R (16 - (k + 1)) (((k + 1 : Nat) : Int) + 1)) = res) := by
              rw [show 16 - (k + 1) = m from by have := HM.out; omega, ← HE2]
              show decide _ = decide _
              rw [decide_eq_decide]
              constructor
              · intro h
                rw [hx, h]
                rfl
              · intro h
                exact (List.cons.inj h).2
            rw [hx] at d0
            generalize R ((k : Int) + 1) = r at *
            have r0 : 0 ≤ r := HRK.1
            have r7 : r ≤ 7 := HRK.2
            clear HE HE2 HRK HA hx g3 g4 g5 g6 HDR ja
            go_wp2_with fail
            refine ⟨⟨j + 1, k + 1, by omega, by omega, by simp, by simp, HB, HE3⟩, ?_⟩
            simp only [intOf]
            omega
          · have HF : Hid (res = false) := by
              rw [← HE2]
              show decide _ = false
              rw [decide_eq_false_iff_not]
              intro h
              exact hx (List.cons.inj h).1
            generalize ws[j] = x at *
            obtain ⟨x1, x2⟩ := x
            simp only at d0 hx
            have hx2 : (x1 != (k : Int) + 1) = true := by simpa using hx
            clear hx
            generalize R ((k : Int) + 1) = r at *
            have r0 : 0 ≤ r := HRK.1
            have r7 : r ≤ 7 := HRK.2
            clear HE HE2 HRK HA g3 g4 g5 g6 HDR ja
            go_wp2_with fail
            go_ret
            exact ⟨HF.out ▸ rfl, HBW.out⟩
        · have j1 : (n : Int) ≤ (j : Int) := by omega
          have HF : Hid (res = false) := by
            rw [← HE2]
            show decide _ = false
            rw [decide_eq_false_iff_not, List.drop_of_length_le (by rw [List.length_map, HN.out]; omega)]
            intro h
            cases h
          generalize R ((k : Int) + 1) = r at *
          have r0 : 0 ≤ r := HRK.1
          have r7 : r ≤ 7 := HRK.2
          clear HE HE2 HRK HA
          go_wp2_with fail
          go_ret
          exact ⟨HF.out ▸ rfl, HBW.out⟩
    · have k1 : ¬ (k : Int) + 1 ≤ 16 := by omega
      obtain rfl : k = 16 := by omega
      have HF : ((j : Int) == (n : Int)) = res := by
        have := HE.out
        rw [show (16 - 16 : Nat) = 0 from rfl, rdG] at this
        rw [← this]
        by_cases hjn : j = n
        · subst hjn
          rw [List.drop_of_length_le (by rw [List.length_map, HN.out]; omega)]
          simp
        · have h1 : ¬ (ws.map (·.1)).drop j = [] := fun h => by
            have := List.drop_eq_nil_iff.1 h
            rw [List.length_map, HN.out] at this
            omega
          rw [decide_eq_false h1]
          simp
          omega
      clear HE HA
      go_wp2_with fail
      go_ret
      exact ⟨rfl, HBW.out⟩
end Go.Proofs.Ytmlnbbggfjgacaa.P10
/- The contract of the document's First. -/
namespace Go.Proofs.Ytmlnbbggfjgacaa.P10
open Go.RowKit C8 E9
theorem u32 : ∃ d, Try.prog.underlying 32 = some d ∧ d.isRow = true := ⟨_, Try.underlying32, rfl⟩
theorem i32 : (Try.prog.info? 32).map (·.size) = some 19 := by kernel_rfl
theorem rpl_zero (f : Int) : #[.int .i64 f, .int .i64 0, .int .i64 0, .int .i64 0, .int .i64 0, .int .i64 0, .int .i64 0, .int .i64 0, .int .i64 0, .int .i64 0, .int .i64 0, .int .i64 0, .int .i64 0, .int .i64 0, .int .i64 0, .int .i64 0, .int .i64 0, .int .i64 0, .int .i64 0] = (RpL f 0 (fun _ => 0)).toArray := rfl
theorem built32 (k : Int) : Try.prog.built 32 [(0, .int .i64 k)] = some (RpL k 0 (fun _ => 0)).toArray := by rw [← rpl_zero]; rfl
theorem only_cells (b : Nat) : ∀ (l : List Value) (o : Nat) (w : World), Only [b] w (w.setCells b o l)
  | [], _, w => Only.refl _ w
  | v :: l, o, w => (Only.setCell w ⟨b, o, none⟩ v (by simp)).trans (only_cells b l (o + 1) _)
set_option maxRecDepth 20000 in
set_option maxHeartbeats 4000000 in
theorem rFirst_any (fo : Int) (w : World) (h : 1 ≤ fo ∧ fo ≤ 16) : Calls Try.prog 11 #[.int .i64 fo] w fun x w' => x = .returned (.agg (RpL fo 0 (fun x => if x = fo then 7 else 0)).toArray) ∧ Below w.heap.size w w' := by
  obtain ⟨k, rfl⟩ : ∃ k : Nat, fo = k := ⟨fo.toNat, by omega⟩
  have k1 : (1 : Int) ≤ (k : Int) := h.1
  have k16 : (k : Int) ≤ 16 := h.2
  have k17 : (k : Int) < 17 := by omega
  clear h
  have HB : Hid (Below w.heap.size w ((w.alloc (.cells #[.int .i64 0, .int .i64 0, .int .i64 0, .int .i64 0, .int .i64 0, .int .i64 0, .int .i64 0, .int .i64 0, .int .i64 0, .int .i64 0, .int .i64 0, .int .i64 0, .int .i64 0, .int .i64 0, .int .i64 0, .int .i64 0, .int .i64 0, .int .i64 0, .int .i64 0] 32)).alloc (.cells #[.int .i64 0, .int .i64 0, .int .i64 0, .int .i64 0, .int .i64 0, .int .i64 0, .int .i64 0, .int .i64 0, .int .i64 0, .int .i64 0, .int .i64 0, .int .i64 0, .int .i64 0, .int .i64 0, .int .i64 0, .int .i64 0, .int .i64 0, .int .i64 0, .int .i64 0] 32))) := (bel_alloc (Nat.le_refl _) _).trans (bel_alloc (by simp) _)
  have H1 : Hid (RpAt ((w.alloc (.cells #[.int .i64 0, .int .i64 0, .int .i64 0, .int .i64 0, .int .i64 0, .int .i64 0, .int .i64 0, .int .i64 0, .int .i64 0, .int .i64 0, .int .i64 0, .int .i64 0, .int .i64 0, .int .i64 0, .int .i64 0, .int .i64 0, .int .i64 0, .int .i64 0, .int .i64 0] 32)).alloc (.cells #[.int .i64 0, .int .i64 0, .int .i64 0, .int .i64 0, .int .i64 0, .int .i64 0, .int .i64 0, .int .i64 0, .int .i64 0, .int .i64 0, .int .i64 0, .int .i64 0, .int .i64 0, .int .i64 0, .int .i64 0, .int .i64 0, .int .i64 0, .int .i64 0, .int .i64 0] 32)) (w.heap.size + 1) 0 0 (fun _ => 0)) := by
    show _ = _
    rw [← rpl_zero]
    exact heap_alloc2_new w _ _
  have H0 : Hid (RpAt ((w.alloc (.cells #[.int .i64 0, .int .i64 0, .int .i64 0, .int .i64 0, .int .i64 0, .int .i64 0, .int .i64 0, .int .i64 0, .int .i64 0, .int .i64 0, .int .i64 0, .int .i64 0, .int .i64 0, .int .i64 0, .int .i64 0, .int .i64 0, .int .i64 0, .int .i64 0, .int .i64 0] 32)).alloc (.cells #[.int .i64 0, .int .i64 0, .int .i64 0, .int .i64 0, .int .i64 0, .int .i64 0, .int .i64 0, .int .i64 0, .int .i64 0, .int .i64 0, .int .i64 0, .int .i64 0, .int .i64 0, .int .i64 0, .int .i64 0, .int .i64 0, .int .i64 0, .int .i64 0, .int .i64 0] 32)) w.heap.size 0 0 (fun _ => 0)) := by
    show _ = _
    rw [← rpl_zero]
    exact heap_alloc2_old w _ _
  obtain ⟨RES, HRES⟩ : ∃ RES, Hid ((RpL (k : Int) 0 (fun x => if x = (k : Int) then 7 else 0)) = RES) := ⟨_, rfl⟩
  have HR1 : Hid (RES.length = 19 ∧ RES.toArray.size = 19 ∧ RES.toArray.all (·.oneCell') = true) := by
    rw [← HRES.out]
    exact ⟨rpl_length, by rw [List.size_toArray, rpl_length], all_oneCell_toArray rpl_one⟩
  obtain ⟨CC, HCC⟩ : ∃ CC, Hid ((RpL (k : Int) 0 (fun _ => 0)) = CC) := ⟨_, rfl⟩
  have HC1 : Hid (CC.length = 19 ∧ CC.toArray.size = 19 ∧ CC.toArray.all (·.oneCell') = true) := by
    rw [← HCC.out]
    exact ⟨rpl_length, by rw [List.size_toArray, rpl_length], all_oneCell_toArray rpl_one⟩
  have HBT : Hid (Try.prog.built 32 [(0, .int .i64 (k : Int))] = some CC.toArray) := HCC.out ▸ built32 k
  rw [HRES.out]
  go_enter Try.func11, Try.ntmps11
  go_wp2_with (first | with_reducible (refine stop_build 32 ?_))
  refine Stop.go ?_
  refine law_build CC.toArray (by simpa [Act.eval] using HBT.out) ?_
  go_wp2_with (first | with_reducible (refine stop_store 32 ?_))
  refine Stop.go ?_
  generalize ((w.alloc (.cells #[.int .i64 0, .int .i64 0, .int .i64 0, .int .i64 0, .int .i64 0, .int .i64 0, .int .i64 0, .int .i64 0, .int .i64 0, .int .i64 0, .int .i64 0, .int .i64 0, .int .i64 0, .int .i64 0, .int .i64 0, .int .i64 0, .int .i64 0, .int .i64 0, .int .i64 0] 32)).alloc (.cells #[.int .i64 0, .int .i64 0, .int .i64 0, .int .i64 0, .int .i64 0, .int .i64 0, .int .i64 0, .int .i64 0, .int .i64 0, .int .i64 0, .int .i64 0, .int .i64 0, .int .i64 0, .int .i64 0, .int .i64 0, .int .i64 0, .int .i64 0, .int .i64 0, .int .i64 0] 32)) = W1 at *
  refine law_store (w.heap.size + 1) 0 CC.toArray rfl rfl (by rw [HC1.out.2.1]; exact H1.out.there) (by rw [i32, HC1.out.2.1]) HC1.out.2.2 ?_
  have H2 : Hid (RpAt (W1.setCells (w.heap.size + 1) 0 CC) (w.heap.size + 1) k 0 (fun _ => 0)) := by
    rw [← HCC.out]
    exact H1.out.put (R' := fun _ => 0) k 0
  have HO : ∀ l, Only [w.heap.size + 1] W1 (W1.setCells (w.heap.size + 1) 0 l) := fun l => only_cells _ _ _ _
  have H3 : Hid (RpAt (W1.setCells (w.heap.size + 1) 0 CC) w.heap.size 0 0 (fun _ => 0)) := ((HO _).block _ H0.out.lt (by simp)).trans H0.out
  have HB2 : Hid (Below w.heap.size w (W1.setCells (w.heap.size + 1) 0 CC)) := Below.setCells _ _ _ HB.out (by simp)
  clear HO H1 H0 HB
  generalize W1.setCells (w.heap.size + 1) 0 CC = W2 at *
  have d1 := H2.out.atk k (by omega)
  have d2 := H2.out.thaw (2 + k)
  go_wp2_with (first | with_reducible (refine stop_load 32 ?_))
  refine Stop.go ?_
  have H4 : Hid (RpAt (W2.setCell ⟨w.heap.size + 1, 2 + k, none⟩ (.int .i64 7)) (w.heap.size + 1) k 0 (fun y => if y = (k : Int) then 7 else 0)) := H2.out.set k (by omega) 7
  have HO : Only [w.heap.size + 1] W2 (W2.setCell ⟨w.heap.size + 1, 2 + k, none⟩ (.int .i64 7)) := Only.setCell _ _ _ (by simp)
  have H5 : Hid (RpAt (W2.setCell ⟨w.heap.size + 1, 2 + k, none⟩ (.int .i64 7)) w.heap.size 0 0 (fun _ => 0)) := (HO.block _ H3.out.lt (by simp)).trans H3.out
  have HB3 : Hid (Below w.heap.size w (W2.setCell ⟨w.heap.size + 1, 2 + k, none⟩ (.int .i64 7))) := HB2.out.setCell (by simp) _
  clear HO d1 d2 H2 H3 HB2
  generalize W2.setCell ⟨w.heap.size + 1, 2 + k, none⟩ (.int .i64 7) = W3 at *
  obtain ⟨d, hd1, hd2⟩ := u32
  refine law_load (w.heap.size + 1) 0 RES d rfl (HRES.out ▸ H4.out.row) hd1 hd2 (by rw [i32, HR1.out.1]) ?_
  go_wp2_with (first | with_reducible (refine stop_store 32 ?_))
  refine Stop.go ?_
  refine law_store w.heap.size 0 RES.toArray rfl rfl (by rw [HR1.out.2.1]; exact H5.out.there) (by rw [i32, HR1.out.2.1]) HR1.out.2.2 ?_
  have H6 : RpAt (W3.setCells w.heap.size 0 RES) w.heap.size k 0 (fun y => if y = (k : Int) then 7 else 0) := HRES.out ▸ H5.out.put (R' := fun y => if y = (k : Int) then 7 else 0) k 0
  have HB4 := Below.setCells w.heap.size RES 0 HB3.out (Nat.le_refl _)
  have hr := H6.row
  rw [HRES.out] at hr
  go_wp2_with fail
  refine bodyPost_ret (results_row rfl _ _ w.heap.size 0 RES d rfl hr hd1 hd2 (by rw [i32, HR1.out.1])) rfl ⟨rfl, HB4⟩
end Go.Proofs.Ytmlnbbggfjgacaa.P10
/- The contracts of the document's May and Apply. -/
namespace Go.Proofs.Ytmlnbbggfjgacaa.P10
open Go.RowKit C8 E9
section
variable {P : Program} {ops : Array Oper} {rest : List Oper} {dst : Option Tmp} {T : TypeId} {pos : String} {after : Array Edge} {a : Act} {w : World} {Q : Exit → Act → World → Prop}
theorem stop_load_g (ty : TypeId) {x : Operand} {g : Nat × Bool} (h : Stop (wpList P ops Q ({ dst := dst, op := .load ty x, type := T, pos := pos, after := after, guard := some g } :: rest) a w)) :
    wpList P ops Q ({ dst := dst, op := .load ty x, type := T, pos := pos, after := after, guard := some g } :: rest) a w := h
/-- An operation whose guard says yes. -/
theorem unguard {op : Op} {g : Nat × Bool} (hw : Region.wanted { dst := dst, op := op, type := T, pos := pos, after := after, guard := some g } (yielded ops a.tmps) = true) (h : wpList P ops Q ({ dst := dst, op := op, type := T, pos := pos, after := after, guard := none } :: rest) a w) :
    wpList P ops Q ({ dst := dst, op := op, type := T, pos := pos, after := after, guard := some g } :: rest) a w := by
  simp only [wpList] at h ⊢
  rw [if_pos hw]
  rw [if_pos (show Region.wanted { dst := dst, op := op, type := T, pos := pos, after := after, guard := none } (yielded ops a.tmps) = true from by simp [Region.wanted])] at h
  exact h
end
/-- The document's policy and an entry in the boxes that a call began with. -/
structure RB (w W : World) (f e : Int) (R : Int → Int) (E : Array Value) : Prop where
  bel : Below w.heap.size w W
  pol : RpAt W w.heap.size f e R
  ent : W.heap[w.heap.size + 1]? = some (.cells E 43 (0, 0))
section
variable {w W W' : World} {f e : Int} {R : Int → Int} {E : Array Value}
theorem RB.start (w : World) (f e : Int) (R : Int → Int) (E : Array Value) : RB w ((w.alloc (.cells (RpL f e R).toArray 32)).alloc (.cells E 43)) f e R E :=
  ⟨(bel_alloc (Nat.le_refl _) _).trans (bel_alloc (by simp) _), heap_alloc2_old w _ _, heap_alloc2_new w _ _⟩
theorem RB.step (h : RB w W f e R E) (hb : Below W.heap.size W W') : RB w W' f e R E :=
  ⟨h.bel.trans (bel_le hb h.bel.size), h.pol.below hb, (hb.block _ (Array.getElem?_eq_some_iff.1 h.ent).1).trans h.ent⟩
theorem RB.ecells {x0 x1 x2 x3 x4 x5 x6 x7 x8 : Value} (h : RB w W f e R #[x0, x1, x2, x3, x4, x5, x6, x7, x8]) : W.cell? ⟨w.heap.size + 1, 0, none⟩ = some x0 ∧ W.cell? ⟨w.heap.size + 1, 1, none⟩ = some x1 ∧ W.cell? ⟨w.heap.size + 1, 2, none⟩ = some x2 ∧ W.cell? ⟨w.heap.size + 1, 3, none⟩ = some x3 ∧ W.cell? ⟨w.heap.size + 1, 4, none⟩ = some x4 ∧ W.cell? ⟨w.heap.size + 1, 5, none⟩ = some x5 ∧ W.cell? ⟨w.heap.size + 1, 6, none⟩ = some x6 ∧ W.cell? ⟨w.heap.size + 1, 7, none⟩ = some x7 ∧ W.cell? ⟨w.heap.size + 1, 8, none⟩ = some x8 := by
  refine ⟨?_, ?_, ?_, ?_, ?_, ?_, ?_, ?_, ?_⟩ <;> (rw [cell_of_row _ _ _ _ _ _ h.ent]; rfl)
end
/-- What the document says of a right entry. -/
def rmay (f e : Int) (R : Int → Int) (en : En) : Int :=
  if en.kind ≤ 2 then (if R en.writer < 2 then 30 else 0)
  else if R en.writer < 4 ∨ (en.kind ≠ 5 ∧ en.who = f) then 30
  else if en.kind = 5 ∧ ¬ (en.epoch = e + 1 ∧ en.wraps.map (·.1) = rdG R 16 1) then 34 else 0
set_option maxRecDepth 20000 in
set_option maxHeartbeats 4000000 in
theorem rmay_1 (f e : Int) (R : Int → Int) (en : En) (ve : Value) (w : World) (hE : EnIs w ve en) (hw : 0 ≤ en.writer ∧ en.writer ≤ 16) (h1 : en.kind ≤ 2) (h2 : R en.writer < 2) : Calls Try.prog 17 #[.agg (RpL f e R).toArray, ve] w fun x w' => x = .returned (.int .i64 30) ∧ Below w.heap.size w w' := by
  obtain ⟨np, nc, vp, vc, q, c, rfl, hA⟩ := hE
  have HS0 : Hid (RB w ((w.alloc (.cells (RpL f e R).toArray 32)).alloc (.cells (EnV en np nc vp vc q c) 43)) f e R (EnV en np nc vp vc q c)) := RB.start w f e R _
  obtain ⟨k, HK⟩ : ∃ k : Nat, Hid (en.writer = k) := ⟨en.writer.toNat, by show _ = _; omega⟩
  obtain ⟨e1, e2, e3, e4, e5, e6, e7, e8, e9⟩ := en
  simp only [EnV] at *
  have HK' := HK.out
  subst HK'
  generalize e4.length = l4 at *
  generalize e5.length = l5 at *
  generalize e9.length = l9 at *
  obtain ⟨d0, d1, d2, d3, d4, d5, d6, d7, d8⟩ := HS0.out.ecells
  have p0 := HS0.out.pol.cf
  have p1 := HS0.out.pol.ce
  have p2 := HS0.out.pol.atk k (by omega)
  have k0 : (0 : Int) ≤ (k : Int) := hw.1
  have k16 : (k : Int) ≤ 16 := hw.2
  have k17 : (k : Int) < 17 := by omega
  obtain ⟨r, HRK⟩ : ∃ r, Hid (R (k : Int) = r) := ⟨_, rfl⟩
  rw [HRK.out] at h2
  clear hA
  clear hw HK
  obtain ⟨L, HC⟩ : ∃ L, Hid (RpL f e R = L) := ⟨_, rfl⟩
  rw [HRK.out] at p2
  rw [HC.out] at HS0 d0 d1 d2 d3 d4 d5 d6 d7 d8 p0 p1 p2
  rw [HC.out]
  go_enter Try.func17, Try.ntmps17
  go_wp2_with fail
  go_ret
  exact ⟨rfl, HS0.out.bel⟩
set_option maxRecDepth 20000 in
set_option maxHeartbeats 4000000 in
theorem rmay_2 (f e : Int) (R : Int → Int) (en : En) (ve : Value) (w : World) (hE : EnIs w ve en) (hw : 0 ≤ en.writer ∧ en.writer ≤ 16) (h1 : en.kind ≤ 2) (h2 : ¬ R en.writer < 2) : Calls Try.prog 17 #[.agg (RpL f e R).toArray, ve] w fun x w' => x = .returned (.int .i64 0) ∧ Below w.heap.size w w' := by
  obtain ⟨np, nc, vp, vc, q, c, rfl, hA⟩ := hE
  have HS0 : Hid (RB w ((w.alloc (.cells (RpL f e R).toArray 32)).alloc (.cells (EnV en np nc vp vc q c) 43)) f e R (EnV en np nc vp vc q c)) := RB.start w f e R _
  obtain ⟨k, HK⟩ : ∃ k : Nat, Hid (en.writer = k) := ⟨en.writer.toNat, by show _ = _; omega⟩
  obtain ⟨e1, e2, e3, e4, e5, e6, e7, e8, e9⟩ := en
  simp only [EnV] at *
  have HK' := HK.out
  subst HK'
  generalize e4.length = l4 at *
  generalize e5.length = l5 at *
  generalize e9.length = l9 at *
  obtain ⟨d0, d1, d2, d3, d4, d5, d6, d7, d8⟩ := HS0.out.ecells
  have p0 := HS0.out.pol.cf
  have p1 := HS0.out.pol.ce
  have p2 := HS0.out.pol.atk k (by omega)
  have k0 : (0 : Int) ≤ (k : Int) := hw.1
  have k16 : (k : Int) ≤ 16 := hw.2
  have k17 : (k : Int) < 17 := by omega
  obtain ⟨r, HRK⟩ : ∃ r, Hid (R (k : Int) = r) := ⟨_, rfl⟩
  rw [HRK.out] at h2
  clear hA
  clear hw HK
  obtain ⟨L, HC⟩ : ∃ L, Hid (RpL f e R = L) := ⟨_, rfl⟩
  rw [HRK.out] at p2
  rw [HC.out] at HS0 d0 d1 d2 d3 d4 d5 d6 d7 d8 p0 p1 p2
  rw [HC.out]
  go_enter Try.func17, Try.ntmps17
  go_wp2_with fail
  go_ret
  exact ⟨rfl, HS0.out.bel⟩
set_option maxRecDepth 20000 in
set_option maxHeartbeats 4000000 in
theorem rmay_3 (f e : Int) (R : Int → Int) (en : En) (ve : Value) (w : World) (hE : EnIs w ve en) (hw : 0 ≤ en.writer ∧ en.writer ≤ 16) (h1 : ¬ en.kind ≤ 2) (h2 : R en.writer < 4) : Calls Try.prog 17 #[.agg (RpL f e R).toArray, ve] w fun x w' => x = .returned (.int .i64 30) ∧ Below w.heap.size w w' := by
  obtain ⟨np, nc, vp, vc, q, c, rfl, hA⟩ := hE
  have HS0 : Hid (RB w ((w.alloc (.cells (RpL f e R).toArray 32)).alloc (.cells (EnV en np nc vp vc q c) 43)) f e R (EnV en np nc vp vc q c)) := RB.start w f e R _
  obtain ⟨k, HK⟩ : ∃ k : Nat, Hid (en.writer = k) := ⟨en.writer.toNat, by show _ = _; omega⟩
  obtain ⟨e1, e2, e3, e4, e5, e6, e7, e8, e9⟩ := en
  simp only [EnV] at *
  have HK' := HK.out
  subst HK'
  generalize e4.length = l4 at *
  generalize e5.length = l5 at *
  generalize e9.length = l9 at *
  obtain ⟨d0, d1, d2, d3, d4, d5, d6, d7, d8⟩ := HS0.out.ecells
  have p0 := HS0.out.pol.cf
  have p1 := HS0.out.pol.ce
  have p2 := HS0.out.pol.atk k (by omega)
  have k0 : (0 : Int) ≤ (k : Int) := hw.1
  have k16 : (k : Int) ≤ 16 := hw.2
  have k17 : (k : Int) < 17 := by omega
  obtain ⟨r, HRK⟩ : ∃ r, Hid (R (k : Int) = r) := ⟨_, rfl⟩
  rw [HRK.out] at h2
  clear hA
  clear hw HK
  obtain ⟨L, HC⟩ : ∃ L, Hid (RpL f e R = L) := ⟨_, rfl⟩
  rw [HRK.out] at p2
  rw [HC.out] at HS0 d0 d1 d2 d3 d4 d5 d6 d7 d8 p0 p1 p2
  rw [HC.out]
  go_enter Try.func17, Try.ntmps17
  go_wp2_with fail
  go_ret
  exact ⟨rfl, HS0.out.bel⟩
set_option maxRecDepth 20000 in
set_option maxHeartbeats 4000000 in
theorem rmay_4 (f e : Int) (R : Int → Int) (en : En) (ve : Value) (w : World) (hE : EnIs w ve en) (hw : 0 ≤ en.writer ∧ en.writer ≤ 16) (h1 : ¬ en.kind ≤ 2) (h2 : ¬ R en.writer < 4) (h3 : ¬ en.kind = 5) (h4 : en.who = f) : Calls Try.prog 17 #[.agg (RpL f e R).toArray, ve] w fun x w' => x = .returned (.int .i64 30) ∧ Below w.heap.size w w' := by
  obtain ⟨np, nc, vp, vc, q, c, rfl, hA⟩ := hE
  have HS0 : Hid (RB w ((w.alloc (.cells (RpL f e R).toArray 32)).alloc (.cells (EnV en np nc vp vc q c) 43)) f e R (EnV en np nc vp vc q c)) := RB.start w f e R _
  obtain ⟨k, HK⟩ : ∃ k : Nat, Hid (en.writer = k) := ⟨en.writer.toNat, by show _ = _; omega⟩
  obtain ⟨e1, e2, e3, e4, e5, e6, e7, e8, e9⟩ := en
  simp only [EnV] at *
  have HK' := HK.out
  subst HK'
  generalize e4.length = l4 at *
  generalize e5.length = l5 at *
  generalize e9.length = l9 at *
  obtain ⟨d0, d1, d2, d3, d4, d5, d6, d7, d8⟩ := HS0.out.ecells
  have p0 := HS0.out.pol.cf
  have p1 := HS0.out.pol.ce
  have p2 := HS0.out.pol.atk k (by omega)
  have k0 : (0 : Int) ≤ (k : Int) := hw.1
  have k16 : (k : Int) ≤ 16 := hw.2
  have k17 : (k : Int) < 17 := by omega
  obtain ⟨r, HRK⟩ : ∃ r, Hid (R (k : Int) = r) := ⟨_, rfl⟩
  rw [HRK.out] at h2
  have z5 : (e1 != 5) = true := by simp [h3]
  have z6 : (e6 == f) = true := by simp [h4]
  clear hA h3 h4
  clear hw HK
  obtain ⟨L, HC⟩ : ∃ L, Hid (RpL f e R = L) := ⟨_, rfl⟩
  rw [HRK.out] at p2
  rw [HC.out] at HS0 d0 d1 d2 d3 d4 d5 d6 d7 d8 p0 p1 p2
  rw [HC.out]
  go_enter Try.func17, Try.ntmps17
  go_wp2_with fail
  go_ret
  exact ⟨rfl, HS0.out.bel⟩
set_option maxRecDepth 20000 in
set_option maxHeartbeats 4000000 in
theorem rmay_5 (f e : Int) (R : Int → Int) (en : En) (ve : Value) (w : World) (hE : EnIs w ve en) (hw : 0 ≤ en.writer ∧ en.writer ≤ 16) (h1 : ¬ en.kind ≤ 2) (h2 : ¬ R en.writer < 4) (h3 : ¬ en.kind = 5) (h4 : ¬ en.who = f) : Calls Try.prog 17 #[.agg (RpL f e R).toArray, ve] w fun x w' => x = .returned (.int .i64 0) ∧ Below w.heap.size w w' := by
  obtain ⟨np, nc, vp, vc, q, c, rfl, hA⟩ := hE
  have HS0 : Hid (RB w ((w.alloc (.cells (RpL f e R).toArray 32)).alloc (.cells (EnV en np nc vp vc q c) 43)) f e R (EnV en np nc vp vc q c)) := RB.start w f e R _
  obtain ⟨k, HK⟩ : ∃ k : Nat, Hid (en.writer = k) := ⟨en.writer.toNat, by show _ = _; omega⟩
  obtain ⟨e1, e2, e3, e4, e5, e6, e7, e8, e9⟩ := en
  simp only [EnV] at *
  have HK' := HK.out
  subst HK'
  generalize e4.length = l4 at *
  generalize e5.length = l5 at *
  generalize e9.length = l9 at *
  obtain ⟨d0, d1, d2, d3, d4, d5, d6, d7, d8⟩ := HS0.out.ecells
  have p0 := HS0.out.pol.cf
  have p1 := HS0.out.pol.ce
  have p2 := HS0.out.pol.atk k (by omega)
  have k0 : (0 : Int) ≤ (k : Int) := hw.1
  have k16 : (k : Int) ≤ 16 := hw.2
  have k17 : (k : Int) < 17 := by omega
  obtain ⟨r, HRK⟩ : ∃ r, Hid (R (k : Int) = r) := ⟨_, rfl⟩
  rw [HRK.out] at h2
  have z5 : (e1 != 5) = true := by simp [h3]
  have z7 : (e1 == 5) = false := by simp [h3]
  have z6 : (e6 == f) = false := by simp [h4]
  clear hA h3 h4
  clear hw HK
  obtain ⟨L, HC⟩ : ∃ L, Hid (RpL f e R = L) := ⟨_, rfl⟩
  rw [HRK.out] at p2
  rw [HC.out] at HS0 d0 d1 d2 d3 d4 d5 d6 d7 d8 p0 p1 p2
  rw [HC.out]
  go_enter Try.func17, Try.ntmps17
  go_wp2_with fail
  go_ret
  exact ⟨rfl, HS0.out.bel⟩
set_option maxRecDepth 20000 in
set_option maxHeartbeats 4000000 in
theorem rmay_6 (f e : Int) (R : Int → Int) (en : En) (ve : Value) (w : World) (hE : EnIs w ve en) (hw : 0 ≤ en.writer ∧ en.writer ≤ 16) (h3 : en.kind = 5) (h2 : ¬ R en.writer < 4) (h4 : ¬ en.epoch = e + 1) (hb : 0 ≤ e ∧ e ≤ 16) : Calls Try.prog 17 #[.agg (RpL f e R).toArray, ve] w fun x w' => x = .returned (.int .i64 34) ∧ Below w.heap.size w w' := by
  obtain ⟨np, nc, vp, vc, q, c, rfl, hA⟩ := hE
  have HS0 : Hid (RB w ((w.alloc (.cells (RpL f e R).toArray 32)).alloc (.cells (EnV en np nc vp vc q c) 43)) f e R (EnV en np nc vp vc q c)) := RB.start w f e R _
  obtain ⟨k, HK⟩ : ∃ k : Nat, Hid (en.writer = k) := ⟨en.writer.toNat, by show _ = _; omega⟩
  obtain ⟨e1, e2, e3, e4, e5, e6, e7, e8, e9⟩ := en
  simp only [EnV] at *
  have HK' := HK.out
  subst HK'
  generalize e4.length = l4 at *
  generalize e5.length = l5 at *
  generalize e9.length = l9 at *
  obtain ⟨d0, d1, d2, d3, d4, d5, d6, d7, d8⟩ := HS0.out.ecells
  have p0 := HS0.out.pol.cf
  have p1 := HS0.out.pol.ce
  have p2 := HS0.out.pol.atk k (by omega)
  have k0 : (0 : Int) ≤ (k : Int) := hw.1
  have k16 : (k : Int) ≤ 16 := hw.2
  have k17 : (k : Int) < 17 := by omega
  obtain ⟨r, HRK⟩ : ∃ r, Hid (R (k : Int) = r) := ⟨_, rfl⟩
  rw [HRK.out] at h2
  have z6 : (e8 != e + 1) = true := by simp [h4]
  have b1 : -1000 ≤ e := by omega
  have b2 : e ≤ 1000 := by omega
  clear hA h4 hb
  subst h3
  clear hw HK
  obtain ⟨L, HC⟩ : ∃ L, Hid (RpL f e R = L) := ⟨_, rfl⟩
  rw [HRK.out] at p2
  rw [HC.out] at HS0 d0 d1 d2 d3 d4 d5 d6 d7 d8 p0 p1 p2
  rw [HC.out]
  go_enter Try.func17, Try.ntmps17
  go_wp2_with fail
  go_ret
  exact ⟨rfl, HS0.out.bel⟩
set_option maxRecDepth 20000 in
set_option maxHeartbeats 4000000 in
theorem rmay_7 (f e : Int) (R : Int → Int) (en : En) (ve : Value) (w : World) (hE : EnIs w ve en) (hw : 0 ≤ en.writer ∧ en.writer ≤ 16) (h3 : en.kind = 5) (h2 : ¬ R en.writer < 4) (h4 : en.epoch = e + 1) (hb : 0 ≤ e ∧ e ≤ 16) (hR : ∀ x, 0 ≤ R x ∧ R x ≤ 7) (hl : en.wraps.length ≤ 100000) (h5 : ¬ en.wraps.map (·.1) = rdG R 16 1) : Calls Try.prog 17 #[.agg (RpL f e R).toArray, ve] w fun x w' => x = .returned (.int .i64 34) ∧ Below w.heap.size w w' := by
  obtain ⟨np, nc, vp, vc, q, c, rfl, hA⟩ := hE
  have H31 : Hid (∀ W, Below w.heap.size w W → Calls Try.prog 31 #[.agg (RpL f e R).toArray, .slice q en.wraps.length c] W fun x w' => x = .returned (.bool false) ∧ Below W.heap.size W w') := fun W hb => by
    have := rreaders_any f e R en.wraps q c W (hA.wraps.below hb) hl hR
    rw [decide_eq_false h5] at this
    exact this
  have HU := u32
  obtain ⟨dd, hd1, hd2⟩ := HU
  have HS0 : Hid (RB w ((w.alloc (.cells (RpL f e R).toArray 32)).alloc (.cells (EnV en np nc vp vc q c) 43)) f e R (EnV en np nc vp vc q c)) := RB.start w f e R _
  obtain ⟨k, HK⟩ : ∃ k : Nat, Hid (en.writer = k) := ⟨en.writer.toNat, by show _ = _; omega⟩
  obtain ⟨e1, e2, e3, e4, e5, e6, e7, e8, e9⟩ := en
  simp only [EnV] at *
  have HK' := HK.out
  subst HK'
  generalize e4.length = l4 at *
  generalize e5.length = l5 at *
  generalize e9.length = l9 at *
  obtain ⟨d0, d1, d2, d3, d4, d5, d6, d7, d8⟩ := HS0.out.ecells
  have p0 := HS0.out.pol.cf
  have p1 := HS0.out.pol.ce
  have p2 := HS0.out.pol.atk k (by omega)
  have k0 : (0 : Int) ≤ (k : Int) := hw.1
  have k16 : (k : Int) ≤ 16 := hw.2
  have k17 : (k : Int) < 17 := by omega
  obtain ⟨r, HRK⟩ : ∃ r, Hid (R (k : Int) = r) := ⟨_, rfl⟩
  rw [HRK.out] at h2
  have b1 : -1000 ≤ e := by omega
  have b2 : e ≤ 1000 := by omega
  clear hA h5 hl hR hb
  subst h3
  subst h4
  have hrow := HS0.out.pol.row
  have hlen : (RpL f e R).length = 19 := rpl_length
  clear hw HK
  obtain ⟨L, HC⟩ : ∃ L, Hid (RpL f e R = L) := ⟨_, rfl⟩
  rw [HRK.out] at p2
  rw [HC.out] at hrow hlen H31 HS0 d0 d1 d2 d3 d4 d5 d6 d7 d8 p0 p1 p2
  rw [HC.out]
  go_enter Try.func17, Try.ntmps17
  go_wp2_with (first | with_reducible (refine stop_load_g 32 ?_))
  refine Stop.go ?_
  refine unguard rfl ?_
  refine law_load w.heap.size 0 L dd rfl hrow hd1 hd2 (by rw [i32, hlen]) ?_
  have H31' := H31.out _ HS0.out.bel
  go_wp2_with fail
  refine H31'.mono ?_
  rintro x w3 ⟨rfl, B3⟩
  have HS3 := HS0.out.step B3
  clear B3 H31'
  go_wp2_with fail
  go_ret
  exact ⟨rfl, HS3.bel⟩
set_option maxRecDepth 20000 in
set_option maxHeartbeats 4000000 in
theorem rmay_8 (f e : Int) (R : Int → Int) (en : En) (ve : Value) (w : World) (hE : EnIs w ve en) (hw : 0 ≤ en.writer ∧ en.writer ≤ 16) (h3 : en.kind = 5) (h2 : ¬ R en.writer < 4) (h4 : en.epoch = e + 1) (hb : 0 ≤ e ∧ e ≤ 16) (hR : ∀ x, 0 ≤ R x ∧ R x ≤ 7) (hl : en.wraps.length ≤ 100000) (h5 : en.wraps.map (·.1) = rdG R 16 1) : Calls Try.prog 17 #[.agg (RpL f e R).toArray, ve] w fun x w' => x = .returned (.int .i64 0) ∧ Below w.heap.size w w' := by
  obtain ⟨np, nc, vp, vc, q, c, rfl, hA⟩ := hE
  have H31 : Hid (∀ W, Below w.heap.size w W → Calls Try.prog 31 #[.agg (RpL f e R).toArray, .slice q en.wraps.length c] W fun x w' => x = .returned (.bool true) ∧ Below W.heap.size W w') := fun W hb => by
    have := rreaders_any f e R en.wraps q c W (hA.wraps.below hb) hl hR
    rw [decide_eq_true h5] at this
    exact this
  have HU := u32
  obtain ⟨dd, hd1, hd2⟩ := HU
  have HS0 : Hid (RB w ((w.alloc (.cells (RpL f e R).toArray 32)).alloc (.cells (EnV en np nc vp vc q c) 43)) f e R (EnV en np nc vp vc q c)) := RB.start w f e R _
  obtain ⟨k, HK⟩ : ∃ k : Nat, Hid (en.writer = k) := ⟨en.writer.toNat, by show _ = _; omega⟩
  obtain ⟨e1, e2, e3, e4, e5, e6, e7, e8, e9⟩ := en
  simp only [EnV] at *
  have HK' := HK.out
  subst HK'
  generalize e4.length = l4 at *
  generalize e5.length = l5 at *
  generalize e9.length = l9 at *
  obtain ⟨d0, d1, d2, d3, d4, d5, d6, d7, d8⟩ := HS0.out.ecells
  have p0 := HS0.out.pol.cf
  have p1 := HS0.out.pol.ce
  have p2 := HS0.out.pol.atk k (by omega)
  have k0 : (0 : Int) ≤ (k : Int) := hw.1
  have k16 : (k : Int) ≤ 16 := hw.2
  have k17 : (k : Int) < 17 := by omega
  obtain ⟨r, HRK⟩ : ∃ r, Hid (R (k : Int) = r) := ⟨_, rfl⟩
  rw [HRK.out] at h2
  have b1 : -1000 ≤ e := by omega
  have b2 : e ≤ 1000 := by omega
  clear hA h5 hl hR hb
  subst h3
  subst h4
  have hrow := HS0.out.pol.row
  have hlen : (RpL f e R).length = 19 := rpl_length
  clear hw HK
  obtain ⟨L, HC⟩ : ∃ L, Hid (RpL f e R = L) := ⟨_, rfl⟩
  rw [HRK.out] at p2
  rw [HC.out] at hrow hlen H31 HS0 d0 d1 d2 d3 d4 d5 d6 d7 d8 p0 p1 p2
  rw [HC.out]
  go_enter Try.func17, Try.ntmps17
  go_wp2_with (first | with_reducible (refine stop_load_g 32 ?_))
  refine Stop.go ?_
  refine unguard rfl ?_
  refine law_load w.heap.size 0 L dd rfl hrow hd1 hd2 (by rw [i32, hlen]) ?_
  have H31' := H31.out _ HS0.out.bel
  go_wp2_with fail
  refine H31'.mono ?_
  rintro x w3 ⟨rfl, B3⟩
  have HS3 := HS0.out.step B3
  clear B3 H31'
  go_wp2_with fail
  go_ret
  exact ⟨rfl, HS3.bel⟩
theorem rMay_any (f e : Int) (R : Int → Int) (en : En) (ve : Value) (w : World) (hE : EnIs w ve en) (hw : 0 ≤ en.writer ∧ en.writer ≤ 16) (hb : 0 ≤ e ∧ e ≤ 16) (hR : ∀ x, 0 ≤ R x ∧ R x ≤ 7) (hl : en.wraps.length ≤ 100000) : Calls Try.prog 17 #[.agg (RpL f e R).toArray, ve] w fun x w' => x = .returned (.int .i64 (rmay f e R en)) ∧ Below w.heap.size w w' := by
  unfold rmay
  by_cases h1 : en.kind ≤ 2
  · rw [if_pos h1]
    by_cases h2 : R en.writer < 2
    · rw [if_pos h2]; exact rmay_1 f e R en ve w hE hw h1 h2
    · rw [if_neg h2]; exact rmay_2 f e R en ve w hE hw h1 h2
  · rw [if_neg h1]
    by_cases h2 : R en.writer < 4
    · rw [if_pos (.inl h2)]; exact rmay_3 f e R en ve w hE hw h1 h2
    · by_cases h3 : en.kind = 5
      · rw [if_neg (fun h => h.elim h2 (fun h => h.1 h3))]
        by_cases h4 : en.epoch = e + 1
        · by_cases h5 : en.wraps.map (·.1) = rdG R 16 1
          · rw [if_neg (fun h => h.2 ⟨h4, h5⟩)]; exact rmay_8 f e R en ve w hE hw h3 h2 h4 hb hR hl h5
          · rw [if_pos ⟨h3, fun h => h5 h.2⟩]; exact rmay_7 f e R en ve w hE hw h3 h2 h4 hb hR hl h5
        · rw [if_pos ⟨h3, fun h => h4 h.1⟩]; exact rmay_6 f e R en ve w hE hw h3 h2 h4 hb
      · by_cases h4 : en.who = f
        · rw [if_pos (.inr ⟨h3, h4⟩)]; exact rmay_4 f e R en ve w hE hw h1 h2 h3 h4
        · rw [if_neg (fun h => h.elim h2 (fun h => h4 h.2)), if_neg (fun h => h3 h.1)]; exact rmay_5 f e R en ve w hE hw h1 h2 h3 h4
end Go.Proofs.Ytmlnbbggfjgacaa.P10
/- The contract of the document's Apply. -/
namespace Go.Proofs.Ytmlnbbggfjgacaa.P10
open Go.RowKit C8 E9
theorem RpAt.only {bs : List Nat} {w w' : World} {b : Nat} {f e : Int} {R : Int → Int} (h : RpAt w b f e R) (ho : Only bs w w') (hb : b ∉ bs) : RpAt w' b f e R := (ho.block _ h.lt hb).trans h
/-- The three boxes of Apply. -/
structure RC (w W : World) (f e : Int) (R : Int → Int) (E : Array Value) : Prop where
  rb : RB w W f e R E
  out : ∃ f' e' R', RpAt W (w.heap.size + 2) f' e' R'
theorem RC.start (w : World) (f e : Int) (R : Int → Int) (E : Array Value) : RC w (((w.alloc (.cells (RpL f e R).toArray 32)).alloc (.cells E 43)).alloc (.cells #[.int .i64 0, .int .i64 0, .int .i64 0, .int .i64 0, .int .i64 0, .int .i64 0, .int .i64 0, .int .i64 0, .int .i64 0, .int .i64 0, .int .i64 0, .int .i64 0, .int .i64 0, .int .i64 0, .int .i64 0, .int .i64 0, .int .i64 0, .int .i64 0, .int .i64 0] 32)) f e R E := by
  have h := RB.start w f e R E
  have h2 := h.step (bel_alloc (Nat.le_refl _) (.cells #[.int .i64 0, .int .i64 0, .int .i64 0, .int .i64 0, .int .i64 0, .int .i64 0, .int .i64 0, .int .i64 0, .int .i64 0, .int .i64 0, .int .i64 0, .int .i64 0, .int .i64 0, .int .i64 0, .int .i64 0, .int .i64 0, .int .i64 0, .int .i64 0, .int .i64 0] 32))
  refine ⟨h2, 0, 0, fun _ => 0, ?_⟩
  show _ = _
  rw [← rpl_zero]
  have := heap_alloc_new ((w.alloc (.cells (RpL f e R).toArray 32)).alloc (.cells E 43)) (.cells #[.int .i64 0, .int .i64 0, .int .i64 0, .int .i64 0, .int .i64 0, .int .i64 0, .int .i64 0, .int .i64 0, .int .i64 0, .int .i64 0, .int .i64 0, .int .i64 0, .int .i64 0, .int .i64 0, .int .i64 0, .int .i64 0, .int .i64 0, .int .i64 0, .int .i64 0] 32)
  rw [show ((w.alloc (.cells (RpL f e R).toArray 32)).alloc (.cells E 43)).heap.size = w.heap.size + 2 from by simp] at this
  exact this
/-- What an entry makes of the document's rights. -/
def rafR (en : En) (R : Int → Int) : Int → Int := fun x => if en.kind = 3 ∧ x = en.who then en.rights else if en.kind = 4 ∧ x = en.who then 0 else R x
set_option maxRecDepth 20000 in
set_option maxHeartbeats 4000000 in
theorem rapply_3 (f e : Int) (R : Int → Int) (en : En) (ve : Value) (w : World) (hE : EnIs w ve en) (hk : en.kind = 3) (hw : 1 ≤ en.who ∧ en.who ≤ 16) : Calls Try.prog 19 #[.agg (RpL f e R).toArray, ve] w fun x w' => x = .returned (.agg (RpL f e (fun y => if y = en.who then en.rights else R y)).toArray) ∧ Below w.heap.size w w' := by
  obtain ⟨np, nc, vp, vc, q, c, rfl, -⟩ := hE
  have HS0 : Hid (RC w (((w.alloc (.cells (RpL f e R).toArray 32)).alloc (.cells (EnV en np nc vp vc q c) 43)).alloc (.cells #[.int .i64 0, .int .i64 0, .int .i64 0, .int .i64 0, .int .i64 0, .int .i64 0, .int .i64 0, .int .i64 0, .int .i64 0, .int .i64 0, .int .i64 0, .int .i64 0, .int .i64 0, .int .i64 0, .int .i64 0, .int .i64 0, .int .i64 0, .int .i64 0, .int .i64 0] 32)) f e R (EnV en np nc vp vc q c)) := RC.start w f e R _
  obtain ⟨RES, HRES⟩ : ∃ RES, Hid (RpL f e (fun y => if y = en.who then en.rights else R y) = RES) := ⟨_, rfl⟩
  have HR1 : Hid (RES.length = 19 ∧ RES.toArray.size = 19 ∧ RES.toArray.all (·.oneCell') = true) := by
    rw [← HRES.out]
    exact ⟨rpl_length, by rw [List.size_toArray, rpl_length], all_oneCell_toArray rpl_one⟩
  have HRS : Hid (∀ W b f' e' R', RpAt W b f' e' R' → RpAt (W.setCells b 0 RES) b f e (fun y => if y = en.who then en.rights else R y)) := by
    rw [← HRES.out]
    exact fun W b f' e' R' h => h.put (R' := (fun y => if y = en.who then en.rights else R y)) f e
  have HRW : Hid (∀ W b, RpAt W b f e (fun y => if y = en.who then en.rights else R y) → W.rangeAt b 0 RES) := by
    rw [← HRES.out]
    exact fun W b h => h.row
  rw [HRES.out]
  obtain ⟨a1, a2, a3, a4, a5, a6, a7, a8, a9⟩ := en
  simp only [EnV] at *
  generalize a4.length = l4 at *
  generalize a5.length = l5 at *
  generalize a9.length = l9 at *
  subst hk
  obtain ⟨k, HK⟩ : ∃ k : Nat, Hid (a6 = k) := ⟨a6.toNat, by show _ = _; omega⟩
  have HK' := HK.out
  subst HK'
  have k0 : (0 : Int) ≤ (k : Int) := by omega
  have k16 : (k : Int) ≤ 16 := hw.2
  have k17 : (k : Int) < 17 := by omega
  clear hw HK
  obtain ⟨d0, d1, d2, d3, d4, d5, d6, d7, d8⟩ := HS0.out.rb.ecells
  obtain ⟨L, HC⟩ : ∃ L, Hid (RpL f e R = L) := ⟨_, rfl⟩
  rw [HC.out] at HS0 d0 d1 d2 d3 d4 d5 d6 d7 d8
  rw [HC.out]
  obtain ⟨dd, hd1, hd2⟩ := u32
  go_enter Try.func19, Try.ntmps19
  go_wp2_with (first | with_reducible (refine stop_store 3 ?_))
  refine Stop.go ?_
  generalize (((w.alloc (.cells L.toArray 32)).alloc (.cells #[.int .i64 3, .int .i64 a2, .int .i64 a3, .slice np l4 nc, .slice vp l5 vc, .int .i64 (k : Int), .int .i64 a7, .int .i64 a8, .slice q l9 c] 43)).alloc (.cells #[.int .i64 0, .int .i64 0, .int .i64 0, .int .i64 0, .int .i64 0, .int .i64 0, .int .i64 0, .int .i64 0, .int .i64 0, .int .i64 0, .int .i64 0, .int .i64 0, .int .i64 0, .int .i64 0, .int .i64 0, .int .i64 0, .int .i64 0, .int .i64 0, .int .i64 0] 32)) = W1 at *
  have p2 := HS0.out.rb.pol.atk k (by omega)
  have p3 := HS0.out.rb.pol.thaw (2 + k)
  go_wp2_with (first | with_reducible (refine stop_load 32 ?_))
  have HS2 : Hid (Below w.heap.size w (W1.setCell ⟨w.heap.size, 2 + k, none⟩ (.int .i64 a7)) ∧ RpAt (W1.setCell ⟨w.heap.size, 2 + k, none⟩ (.int .i64 a7)) w.heap.size f e (fun y => if y = (k : Int) then a7 else R y) ∧ ∃ f' e' R', RpAt (W1.setCell ⟨w.heap.size, 2 + k, none⟩ (.int .i64 a7)) (w.heap.size + 2) f' e' R') := by
    obtain ⟨f', e', R', h⟩ := HS0.out.out
    exact ⟨HS0.out.rb.bel.setCell (Nat.le_refl _) _, HS0.out.rb.pol.set k (by omega) a7, f', e', R', h.only (Only.setCell (bs := [w.heap.size]) _ _ _ (by simp)) (by simp)⟩
  clear HS0 p2 p3 d0 d1 d2 d3 d4 d5 d6 d7 d8
  generalize W1.setCell ⟨w.heap.size, 2 + k, none⟩ (.int .i64 a7) = W2 at *
  refine Stop.go ?_
  obtain ⟨f', e', R', HO2⟩ := HS2.out.2.2
  have HP2 : Hid (RpAt W2 w.heap.size f e (fun y => if y = (k : Int) then a7 else R y)) := HS2.out.2.1
  have HB2 : Hid (Below w.heap.size w W2) := HS2.out.1
  clear HS2
  refine law_load w.heap.size 0 RES dd rfl (HRW.out _ _ HP2.out) hd1 hd2 (by rw [i32, HR1.out.1]) ?_
  go_wp2_with (first | with_reducible (refine stop_store 32 ?_))
  refine Stop.go ?_
  refine law_store (w.heap.size + 2) 0 RES.toArray rfl rfl (by rw [HR1.out.2.1]; exact HO2.there) (by rw [i32, HR1.out.2.1]) HR1.out.2.2 ?_
  have H6 := HRS.out _ _ _ _ _ HO2
  have HB4 := Below.setCells (w.heap.size + 2) RES 0 HB2.out (by omega)
  have hr := HRW.out _ _ H6
  clear H6 HP2 HB2 HO2
  go_wp2_with fail
  refine bodyPost_ret (results_row rfl _ _ (w.heap.size + 2) 0 RES dd rfl hr hd1 hd2 (by rw [i32, HR1.out.1])) rfl ⟨rfl, HB4⟩
set_option maxRecDepth 20000 in
set_option maxHeartbeats 4000000 in
theorem rapply_4 (f e : Int) (R : Int → Int) (en : En) (ve : Value) (w : World) (hE : EnIs w ve en) (hk : en.kind = 4) (hw : 1 ≤ en.who ∧ en.who ≤ 16) : Calls Try.prog 19 #[.agg (RpL f e R).toArray, ve] w fun x w' => x = .returned (.agg (RpL f e (fun y => if y = en.who then 0 else R y)).toArray) ∧ Below w.heap.size w w' := by
  obtain ⟨np, nc, vp, vc, q, c, rfl, -⟩ := hE
  have HS0 : Hid (RC w (((w.alloc (.cells (RpL f e R).toArray 32)).alloc (.cells (EnV en np nc vp vc q c) 43)).alloc (.cells #[.int .i64 0, .int .i64 0, .int .i64 0, .int .i64 0, .int .i64 0, .int .i64 0, .int .i64 0, .int .i64 0, .int .i64 0, .int .i64 0, .int .i64 0, .int .i64 0, .int .i64 0, .int .i64 0, .int .i64 0, .int .i64 0, .int .i64 0, .int .i64 0, .int .i64 0] 32)) f e R (EnV en np nc vp vc q c)) := RC.start w f e R _
  obtain ⟨RES, HRES⟩ : ∃ RES, Hid (RpL f e (fun y => if y = en.who then 0 else R y) = RES) := ⟨_, rfl⟩
  have HR1 : Hid (RES.length = 19 ∧ RES.toArray.size = 19 ∧ RES.toArray.all (·.oneCell') = true) := by
    rw [← HRES.out]
    exact ⟨rpl_length, by rw [List.size_toArray, rpl_length], all_oneCell_toArray rpl_one⟩
  have HRS : Hid (∀ W b f' e' R', RpAt W b f' e' R' → RpAt (W.setCells b 0 RES) b f e (fun y => if y = en.who then 0 else R y)) := by
    rw [← HRES.out]
    exact fun W b f' e' R' h => h.put (R' := (fun y => if y = en.who then 0 else R y)) f e
  have HRW : Hid (∀ W b, RpAt W b f e (fun y => if y = en.who then 0 else R y) → W.rangeAt b 0 RES) := by
    rw [← HRES.out]
    exact fun W b h => h.row
  rw [HRES.out]
  obtain ⟨a1, a2, a3, a4, a5, a6, a7, a8, a9⟩ := en
  simp only [EnV] at *
  generalize a4.length = l4 at *
  generalize a5.length = l5 at *
  generalize a9.length = l9 at *
  subst hk
  obtain ⟨k, HK⟩ : ∃ k : Nat, Hid (a6 = k) := ⟨a6.toNat, by show _ = _; omega⟩
  have HK' := HK.out
  subst HK'
  have k0 : (0 : Int) ≤ (k : Int) := by omega
  have k16 : (k : Int) ≤ 16 := hw.2
  have k17 : (k : Int) < 17 := by omega
  clear hw HK
  obtain ⟨d0, d1, d2, d3, d4, d5, d6, d7, d8⟩ := HS0.out.rb.ecells
  obtain ⟨L, HC⟩ : ∃ L, Hid (RpL f e R = L) := ⟨_, rfl⟩
  rw [HC.out] at HS0 d0 d1 d2 d3 d4 d5 d6 d7 d8
  rw [HC.out]
  obtain ⟨dd, hd1, hd2⟩ := u32
  go_enter Try.func19, Try.ntmps19
  go_wp2_with (first | with_reducible (refine stop_store 3 ?_))
  refine Stop.go ?_
  generalize (((w.alloc (.cells L.toArray 32)).alloc (.cells #[.int .i64 4, .int .i64 a2, .int .i64 a3, .slice np l4 nc, .slice vp l5 vc, .int .i64 (k : Int), .int .i64 a7, .int .i64 a8, .slice q l9 c] 43)).alloc (.cells #[.int .i64 0, .int .i64 0, .int .i64 0, .int .i64 0, .int .i64 0, .int .i64 0, .int .i64 0, .int .i64 0, .int .i64 0, .int .i64 0, .int .i64 0, .int .i64 0, .int .i64 0, .int .i64 0, .int .i64 0, .int .i64 0, .int .i64 0, .int .i64 0, .int .i64 0] 32)) = W1 at *
  have p2 := HS0.out.rb.pol.atk k (by omega)
  have p3 := HS0.out.rb.pol.thaw (2 + k)
  go_wp2_with (first | with_reducible (refine stop_load 32 ?_))
  have HS2 : Hid (Below w.heap.size w (W1.setCell ⟨w.heap.size, 2 + k, none⟩ (.int .i64 0)) ∧ RpAt (W1.setCell ⟨w.heap.size, 2 + k, none⟩ (.int .i64 0)) w.heap.size f e (fun y => if y = (k : Int) then 0 else R y) ∧ ∃ f' e' R', RpAt (W1.setCell ⟨w.heap.size, 2 + k, none⟩ (.int .i64 0)) (w.heap.size + 2) f' e' R') := by
    obtain ⟨f', e', R', h⟩ := HS0.out.out
    exact ⟨HS0.out.rb.bel.setCell (Nat.le_refl _) _, HS0.out.rb.pol.set k (by omega) 0, f', e', R', h.only (Only.setCell (bs := [w.heap.size]) _ _ _ (by simp)) (by simp)⟩
  clear HS0 p2 p3 d0 d1 d2 d3 d4 d5 d6 d7 d8
  generalize W1.setCell ⟨w.heap.size, 2 + k, none⟩ (.int .i64 0) = W2 at *
  refine Stop.go ?_
  obtain ⟨f', e', R', HO2⟩ := HS2.out.2.2
  have HP2 : Hid (RpAt W2 w.heap.size f e (fun y => if y = (k : Int) then 0 else R y)) := HS2.out.2.1
  have HB2 : Hid (Below w.heap.size w W2) := HS2.out.1
  clear HS2
  refine law_load w.heap.size 0 RES dd rfl (HRW.out _ _ HP2.out) hd1 hd2 (by rw [i32, HR1.out.1]) ?_
  go_wp2_with (first | with_reducible (refine stop_store 32 ?_))
  refine Stop.go ?_
  refine law_store (w.heap.size + 2) 0 RES.toArray rfl rfl (by rw [HR1.out.2.1]; exact HO2.there) (by rw [i32, HR1.out.2.1]) HR1.out.2.2 ?_
  have H6 := HRS.out _ _ _ _ _ HO2
  have HB4 := Below.setCells (w.heap.size + 2) RES 0 HB2.out (by omega)
  have hr := HRW.out _ _ H6
  clear H6 HP2 HB2 HO2
  go_wp2_with fail
  refine bodyPost_ret (results_row rfl _ _ (w.heap.size + 2) 0 RES dd rfl hr hd1 hd2 (by rw [i32, HR1.out.1])) rfl ⟨rfl, HB4⟩
set_option maxRecDepth 20000 in
set_option maxHeartbeats 4000000 in
theorem rapply_5 (f e : Int) (R : Int → Int) (en : En) (ve : Value) (w : World) (hE : EnIs w ve en) (hk : en.kind = 5) : Calls Try.prog 19 #[.agg (RpL f e R).toArray, ve] w fun x w' => x = .returned (.agg (RpL f en.epoch R).toArray) ∧ Below w.heap.size w w' := by
  obtain ⟨np, nc, vp, vc, q, c, rfl, -⟩ := hE
  have HS0 : Hid (RC w (((w.alloc (.cells (RpL f e R).toArray 32)).alloc (.cells (EnV en np nc vp vc q c) 43)).alloc (.cells #[.int .i64 0, .int .i64 0, .int .i64 0, .int .i64 0, .int .i64 0, .int .i64 0, .int .i64 0, .int .i64 0, .int .i64 0, .int .i64 0, .int .i64 0, .int .i64 0, .int .i64 0, .int .i64 0, .int .i64 0, .int .i64 0, .int .i64 0, .int .i64 0, .int .i64 0] 32)) f e R (EnV en np nc vp vc q c)) := RC.start w f e R _
  obtain ⟨RES, HRES⟩ : ∃ RES, Hid (RpL f en.epoch R = RES) := ⟨_, rfl⟩
  have HR1 : Hid (RES.length = 19 ∧ RES.toArray.size = 19 ∧ RES.toArray.all (·.oneCell') = true) := by
    rw [← HRES.out]
    exact ⟨rpl_length, by rw [List.size_toArray, rpl_length], all_oneCell_toArray rpl_one⟩
  have HRS : Hid (∀ W b f' e' R', RpAt W b f' e' R' → RpAt (W.setCells b 0 RES) b f en.epoch R) := by
    rw [← HRES.out]
    exact fun W b f' e' R' h => h.put (R' := R) f en.epoch
  have HRW : Hid (∀ W b, RpAt W b f en.epoch R → W.rangeAt b 0 RES) := by
    rw [← HRES.out]
    exact fun W b h => h.row
  rw [HRES.out]
  obtain ⟨a1, a2, a3, a4, a5, a6, a7, a8, a9⟩ := en
  simp only [EnV] at *
  generalize a4.length = l4 at *
  generalize a5.length = l5 at *
  generalize a9.length = l9 at *
  subst hk
  obtain ⟨d0, d1, d2, d3, d4, d5, d6, d7, d8⟩ := HS0.out.rb.ecells
  obtain ⟨L, HC⟩ : ∃ L, Hid (RpL f e R = L) := ⟨_, rfl⟩
  rw [HC.out] at HS0 d0 d1 d2 d3 d4 d5 d6 d7 d8
  rw [HC.out]
  obtain ⟨dd, hd1, hd2⟩ := u32
  go_enter Try.func19, Try.ntmps19
  go_wp2_with (first | with_reducible (refine stop_store 3 ?_))
  refine Stop.go ?_
  generalize (((w.alloc (.cells L.toArray 32)).alloc (.cells #[.int .i64 5, .int .i64 a2, .int .i64 a3, .slice np l4 nc, .slice vp l5 vc, .int .i64 a6, .int .i64 a7, .int .i64 a8, .slice q l9 c] 43)).alloc (.cells #[.int .i64 0, .int .i64 0, .int .i64 0, .int .i64 0, .int .i64 0, .int .i64 0, .int .i64 0, .int .i64 0, .int .i64 0, .int .i64 0, .int .i64 0, .int .i64 0, .int .i64 0, .int .i64 0, .int .i64 0, .int .i64 0, .int .i64 0, .int .i64 0, .int .i64 0] 32)) = W1 at *
  have p2 := HS0.out.rb.pol.ce
  have p3 := HS0.out.rb.pol.thaw 1
  go_wp2_with (first | with_reducible (refine stop_load 32 ?_))
  have HS2 : Hid (Below w.heap.size w (W1.setCell ⟨w.heap.size, 1, none⟩ (.int .i64 a8)) ∧ RpAt (W1.setCell ⟨w.heap.size, 1, none⟩ (.int .i64 a8)) w.heap.size f a8 R ∧ ∃ f' e' R', RpAt (W1.setCell ⟨w.heap.size, 1, none⟩ (.int .i64 a8)) (w.heap.size + 2) f' e' R') := by
    obtain ⟨f', e', R', h⟩ := HS0.out.out
    exact ⟨HS0.out.rb.bel.setCell (Nat.le_refl _) _, HS0.out.rb.pol.set1 a8, f', e', R', h.only (Only.setCell (bs := [w.heap.size]) _ _ _ (by simp)) (by simp)⟩
  clear HS0 p2 p3 d0 d1 d2 d3 d4 d5 d6 d7 d8
  generalize W1.setCell ⟨w.heap.size, 1, none⟩ (.int .i64 a8) = W2 at *
  refine Stop.go ?_
  obtain ⟨f', e', R', HO2⟩ := HS2.out.2.2
  have HP2 : Hid (RpAt W2 w.heap.size f a8 R) := HS2.out.2.1
  have HB2 : Hid (Below w.heap.size w W2) := HS2.out.1
  clear HS2
  refine law_load w.heap.size 0 RES dd rfl (HRW.out _ _ HP2.out) hd1 hd2 (by rw [i32, HR1.out.1]) ?_
  go_wp2_with (first | with_reducible (refine stop_store 32 ?_))
  refine Stop.go ?_
  refine law_store (w.heap.size + 2) 0 RES.toArray rfl rfl (by rw [HR1.out.2.1]; exact HO2.there) (by rw [i32, HR1.out.2.1]) HR1.out.2.2 ?_
  have H6 := HRS.out _ _ _ _ _ HO2
  have HB4 := Below.setCells (w.heap.size + 2) RES 0 HB2.out (by omega)
  have hr := HRW.out _ _ H6
  clear H6 HP2 HB2 HO2
  go_wp2_with fail
  refine bodyPost_ret (results_row rfl _ _ (w.heap.size + 2) 0 RES dd rfl hr hd1 hd2 (by rw [i32, HR1.out.1])) rfl ⟨rfl, HB4⟩
set_option maxRecDepth 20000 in
set_option maxHeartbeats 4000000 in
theorem rapply_o (f e : Int) (R : Int → Int) (en : En) (ve : Value) (w : World) (hE : EnIs w ve en) (h3 : ¬ en.kind = 3) (h4 : ¬ en.kind = 4) (h5 : ¬ en.kind = 5) : Calls Try.prog 19 #[.agg (RpL f e R).toArray, ve] w fun x w' => x = .returned (.agg (RpL f e R).toArray) ∧ Below w.heap.size w w' := by
  obtain ⟨np, nc, vp, vc, q, c, rfl, -⟩ := hE
  have HS0 : Hid (RC w (((w.alloc (.cells (RpL f e R).toArray 32)).alloc (.cells (EnV en np nc vp vc q c) 43)).alloc (.cells #[.int .i64 0, .int .i64 0, .int .i64 0, .int .i64 0, .int .i64 0, .int .i64 0, .int .i64 0, .int .i64 0, .int .i64 0, .int .i64 0, .int .i64 0, .int .i64 0, .int .i64 0, .int .i64 0, .int .i64 0, .int .i64 0, .int .i64 0, .int .i64 0, .int .i64 0] 32)) f e R (EnV en np nc vp vc q c)) := RC.start w f e R _
  obtain ⟨RES, HRES⟩ : ∃ RES, Hid (RpL f e R = RES) := ⟨_, rfl⟩
  have HR1 : Hid (RES.length = 19 ∧ RES.toArray.size = 19 ∧ RES.toArray.all (·.oneCell') = true) := by
    rw [← HRES.out]
    exact ⟨rpl_length, by rw [List.size_toArray, rpl_length], all_oneCell_toArray rpl_one⟩
  have HRS : Hid (∀ W b f' e' R', RpAt W b f' e' R' → RpAt (W.setCells b 0 RES) b f e R) := by
    rw [← HRES.out]
    exact fun W b f' e' R' h => h.put (R' := R) f e
  have HRW : Hid (∀ W b, RpAt W b f e R → W.rangeAt b 0 RES) := by
    rw [← HRES.out]
    exact fun W b h => h.row
  rw [HRES.out]
  obtain ⟨a1, a2, a3, a4, a5, a6, a7, a8, a9⟩ := en
  simp only [EnV] at *
  generalize a4.length = l4 at *
  generalize a5.length = l5 at *
  generalize a9.length = l9 at *
  have z3 : (a1 == 3) = false := by simpa using h3
  have z4 : (a1 == 4) = false := by simpa using h4
  have z5 : (a1 == 5) = false := by simpa using h5
  obtain ⟨d0, d1, d2, d3, d4, d5, d6, d7, d8⟩ := HS0.out.rb.ecells
  rw [HRES.out] at HS0 d0 d1 d2 d3 d4 d5 d6 d7 d8
  obtain ⟨dd, hd1, hd2⟩ := u32
  go_enter Try.func19, Try.ntmps19
  go_wp2_with (first | with_reducible (refine stop_load 32 ?_))
  generalize (((w.alloc (.cells RES.toArray 32)).alloc (.cells #[.int .i64 a1, .int .i64 a2, .int .i64 a3, .slice np l4 nc, .slice vp l5 vc, .int .i64 a6, .int .i64 a7, .int .i64 a8, .slice q l9 c] 43)).alloc (.cells #[.int .i64 0, .int .i64 0, .int .i64 0, .int .i64 0, .int .i64 0, .int .i64 0, .int .i64 0, .int .i64 0, .int .i64 0, .int .i64 0, .int .i64 0, .int .i64 0, .int .i64 0, .int .i64 0, .int .i64 0, .int .i64 0, .int .i64 0, .int .i64 0, .int .i64 0] 32)) = W2 at *
  have HS2 : Hid (Below w.heap.size w W2 ∧ RpAt W2 w.heap.size f e R ∧ ∃ f' e' R', RpAt W2 (w.heap.size + 2) f' e' R') := ⟨HS0.out.rb.bel, HS0.out.rb.pol, HS0.out.out⟩
  clear HS0 d0 d1 d2 d3 d4 d5 d6 d7 d8
  refine Stop.go ?_
  obtain ⟨f', e', R', HO2⟩ := HS2.out.2.2
  have HP2 : Hid (RpAt W2 w.heap.size f e R) := HS2.out.2.1
  have HB2 : Hid (Below w.heap.size w W2) := HS2.out.1
  clear HS2
  refine law_load w.heap.size 0 RES dd rfl (HRW.out _ _ HP2.out) hd1 hd2 (by rw [i32, HR1.out.1]) ?_
  go_wp2_with (first | with_reducible (refine stop_store 32 ?_))
  refine Stop.go ?_
  refine law_store (w.heap.size + 2) 0 RES.toArray rfl rfl (by rw [HR1.out.2.1]; exact HO2.there) (by rw [i32, HR1.out.2.1]) HR1.out.2.2 ?_
  have H6 := HRS.out _ _ _ _ _ HO2
  have HB4 := Below.setCells (w.heap.size + 2) RES 0 HB2.out (by omega)
  have hr := HRW.out _ _ H6
  clear H6 HP2 HB2 HO2
  go_wp2_with fail
  refine bodyPost_ret (results_row rfl _ _ (w.heap.size + 2) 0 RES dd rfl hr hd1 hd2 (by rw [i32, HR1.out.1])) rfl ⟨rfl, HB4⟩
theorem rApply_any (f e : Int) (R : Int → Int) (en : En) (ve : Value) (w : World) (hE : EnIs w ve en) (hw : en.kind = 3 ∨ en.kind = 4 → 1 ≤ en.who ∧ en.who ≤ 16) : Calls Try.prog 19 #[.agg (RpL f e R).toArray, ve] w fun x w' => x = .returned (.agg (RpL f (if en.kind = 5 then en.epoch else e) (rafR en R)).toArray) ∧ Below w.heap.size w w' := by
  by_cases h3 : en.kind = 3
  · rw [if_neg (by omega), show rafR en R = (fun y => if y = en.who then en.rights else R y) from by
      funext y
      unfold rafR
      by_cases hy : y = en.who
      · rw [if_pos ⟨h3, hy⟩, if_pos hy]
      · rw [if_neg (fun h => hy h.2), if_neg (fun h => hy h.2), if_neg hy]]
    exact rapply_3 f e R en ve w hE h3 (hw (.inl h3))
  · by_cases h4 : en.kind = 4
    · rw [if_neg (by omega), show rafR en R = (fun y => if y = en.who then 0 else R y) from by
        funext y
        unfold rafR
        rw [if_neg (fun h => h3 h.1)]
        by_cases hy : y = en.who
        · rw [if_pos ⟨h4, hy⟩, if_pos hy]
        · rw [if_neg (fun h => hy h.2), if_neg hy]]
      exact rapply_4 f e R en ve w hE h4 (hw (.inr h4))
    · have hr : rafR en R = R := by
        funext y
        unfold rafR
        rw [if_neg (fun h => h3 h.1), if_neg (fun h => h4 h.1)]
      rw [hr]
      by_cases h5 : en.kind = 5
      · rw [if_pos h5]; exact rapply_5 f e R en ve w hE h5
      · rw [if_neg h5]; exact rapply_o f e R en ve w hE h3 h4 h5
end Go.Proofs.Ytmlnbbggfjgacaa.P10
