/- The contract of least. -/
import Derived.Test.YtnceiccciaihoaaP4Times
namespace Go.Proofs.Ytnceiccciaihoaa.P4
open Go.RowKit
theorem wide_lt {d : List Nat} (h : Wide d) : Po.pos Po.B d < Po.B ^ 5 := by
  have := Po.pos_lt (b := Po.B) (by decide) h.2
  rw [h.1] at this
  exact this
def lstW (w : World) (n : List Nat) : World := (w.alloc (Obj.cells (arr .u64 n) 51)).alloc (Obj.cells zeros5 51)
theorem lstW_0 (w : World) (s : List Nat) : WAt (lstW w s) w.heap.size s := by
  show ((w.heap.push _).push _)[_]? = _
  rw [Array.getElem?_push_lt (by simp), Array.getElem_push_eq]
theorem lstW_1 (w : World) (s : List Nat) : WAt (lstW w s) (w.heap.size + 1) (List.replicate 5 0) := by
  show ((w.heap.push _).push _)[_]? = _
  rw [Array.getElem?_push, if_pos (by simp)]
  rfl
theorem lstW_below (w : World) (s : List Nat) : Below w.heap.size w (lstW w s) := ((Below.refl _ _).alloc (Nat.le_refl _) _).alloc (by simp) _
theorem lstW_size (w : World) (s : List Nat) : (lstW w s).heap.size = w.heap.size + 2 := by simp [lstW]
/-- A new variable that a number is stored in. -/
theorem new38 (w : World) (d : List Nat) (hd : d.length = 5) : WAt (World.setCells (w.alloc (Obj.cells zeros5 51)) w.heap.size 0 (arr .u64 d).toList) w.heap.size d ∧ Below w.heap.size w (World.setCells (w.alloc (Obj.cells zeros5 51)) w.heap.size 0 (arr .u64 d).toList) ∧ (World.setCells (w.alloc (Obj.cells zeros5 51)) w.heap.size 0 (arr .u64 d).toList).heap.size = w.heap.size + 1 := by
  have hz0 : WAt (w.alloc (Obj.cells zeros5 51)) w.heap.size (List.replicate 5 0) := heap_alloc_new w _
  refine ⟨?_, Below.setCells _ _ _ ((Below.refl _ _).alloc (Nat.le_refl _) _) (Nat.le_refl _), ?_⟩
  · have := heap_setCells w.heap.size 51 (ints .u64 d) 0 (w.alloc (Obj.cells zeros5 51)) (ints .u64 (List.replicate 5 0)) hz0 (by rw [ints_length, ints_length, hd]; simp)
    show _ = _
    rw [arr_list]
    refine Eq.trans this ?_
    rw [ints_length, hd]
    simp [arr, ints]
  · have : ∀ (vs : List Value) (o : Nat) (w : World) (g : Nat), (w.setCells g o vs).heap.size = w.heap.size := by
      intro vs
      induction vs with
      | nil => intros; rfl
      | cons v vs ih => intro o w g; rw [World.setCells, ih]; simp [World.setCell]
    rw [this]; simp
theorem there38 (w : World) : (w.alloc (Obj.cells zeros5 51)).there w.heap.size 0 5 := there_of_row (heap_alloc_new w _) 5 (by simp [zeros5, arr_size])
theorem mod_once {v : Nat} (h : v < Po.B ^ 5) (h' : Po.B ^ 5 ≤ v + 5) : v + 5 - Po.B ^ 5 = v % Po.P := by
  have e := Po.B5
  rw [e] at h h' ⊢
  have : v % Po.P = v - Po.P := by
    rw [Nat.mod_eq_sub_mod (by omega), Nat.mod_eq_of_lt]
    have : Po.P = 1361129467683753853853498429727072845819 := rfl
    omega
  omega
set_option maxHeartbeats 1000000 in
theorem least_any (n : List Nat) (w : World) (hn : Wide n) :
    Calls Try.prog 29 #[.agg (arr .u64 n)] w fun e w' => ∃ d, e = .returned (.agg (arr .u64 d)) ∧ Wide d ∧ Po.pos Po.B d = Po.pos Po.B n % Po.P ∧ Below w.heap.size w w' := by
  have HN : Hid (Wide n) := hn
  have HNL : Hid (n.length = 5) := hn.1
  clear hn
  go_enter Try.func29, Try.ntmps29
  go_wp2_with (first | with_reducible (refine stop_load 51 ?_))
  rw [zeros5_eq]
  refine Stop.go ?_
  rw [show (w.alloc (Obj.cells (arr .u64 n) 51)).alloc (Obj.cells zeros5 51) = lstW w n from rfl]
  have H0 : Hid (WAt (lstW w n) w.heap.size n) := lstW_0 w n
  have H1 : Hid (WAt (lstW w n) (w.heap.size + 1) (List.replicate 5 0)) := lstW_1 w n
  have HB : Hid (Below w.heap.size w (lstW w n)) := lstW_below w n
  have HSZ : Hid ((lstW w n).heap.size = w.heap.size + 2) := lstW_size w n
  generalize lstW w n = W at *
  with_reducible refine law_load_arr w.heap.size 0 .u64 n _ ?lx ?lc under38 rfl ?li ?lk
  case lx => exact rfl
  case lc => exact rangeAt_of_row H0.out
  case li => rw [HNL.out]; exact info38
  go_wp2_with (first | with_reducible (refine stop_store 51 ?_))
  rw [zeros5_eq]
  refine Stop.go ?_
  with_reducible refine law_store W.heap.size 0 (arr .u64 n) ?sx ?sy ?st ?si (ints_one _ _) ?sk
  case sx => exact rfl
  case sy => exact rfl
  case st => rw [arr_size, HNL.out]; exact there38 W
  case si => rw [arr_size, HNL.out]; exact info38
  obtain ⟨h1, h2, h3⟩ := new38 W n HNL.out
  have H2 : Hid (WAt (World.setCells (W.alloc (Obj.cells zeros5 51)) W.heap.size 0 (arr .u64 n).toList) W.heap.size n) := h1
  have H3 : Hid (WAt (World.setCells (W.alloc (Obj.cells zeros5 51)) W.heap.size 0 (arr .u64 n).toList) w.heap.size n) := H0.out.below h2 H0.out.lt
  have H4 : Hid (WAt (World.setCells (W.alloc (Obj.cells zeros5 51)) W.heap.size 0 (arr .u64 n).toList) (w.heap.size + 1) (List.replicate 5 0)) := H1.out.below h2 H1.out.lt
  have HB2 : Hid (Below w.heap.size w (World.setCells (W.alloc (Obj.cells zeros5 51)) W.heap.size 0 (arr .u64 n).toList)) := HB.out.trans (h2.mono (by have := HSZ.out; omega))
  clear h1 h2 h3 H0 H1 HB
  generalize World.setCells (W.alloc (Obj.cells zeros5 51)) W.heap.size 0 (arr .u64 n).toList = W2 at *
  have hsz := HSZ.out
  clear HSZ
  generalize W.heap.size = g3 at *
  subst hsz
  have c0 := H2.out.cell 0 (by rw [HNL.out]; decide)
  have f0 := H2.out.may 0
  have x0 : Sp.nth n 0 < 67108864 := Sp.nth_lt (by decide) HN.out.2 0
  have HS : Hid (WAt (W2.setCell ⟨w.heap.size + 2, 0, none⟩ (.int .u64 ((Sp.nth n 0 + 5 : Nat) : Int))) (w.heap.size + 2) (n.set 0 (Sp.nth n 0 + 5))) := H2.out.set 0 _
  have hgr : W2.grownBy (W2.setCell ⟨w.heap.size + 2, 0, none⟩ (.int .u64 ((Sp.nth n 0 + 5 : Nat) : Int))) (some (w.heap.size + 2)) := grownBy_set (grownBy_refl _ _) _ _
  have H5 : Hid (WAt (W2.setCell ⟨w.heap.size + 2, 0, none⟩ (.int .u64 ((Sp.nth n 0 + 5 : Nat) : Int))) w.heap.size n) := H3.out.grown hgr (by omega)
  have H6 : Hid (WAt (W2.setCell ⟨w.heap.size + 2, 0, none⟩ (.int .u64 ((Sp.nth n 0 + 5 : Nat) : Int))) (w.heap.size + 1) (List.replicate 5 0)) := H4.out.grown hgr (by omega)
  have HB3 : Hid (Below w.heap.size w (W2.setCell ⟨w.heap.size + 2, 0, none⟩ (.int .u64 ((Sp.nth n 0 + 5 : Nat) : Int)))) := below_grown HB2.out hgr (by omega)
  have HPS : Hid (Po.pos Po.B (n.set 0 (Sp.nth n 0 + 5)) = Po.pos Po.B n + 5) := by
    have := Po.pos_set Po.B n 0 5 (by rw [HNL.out]; decide)
    rw [Nat.pow_zero, Nat.one_mul] at this
    exact this
  have HSL : Hid ((n.set 0 (Sp.nth n 0 + 5)).length = 5) := by show _ = _; rw [List.length_set]; exact HNL.out
  have HSB : Hid (∀ x ∈ n.set 0 (Sp.nth n 0 + 5), x < 9223372036854775808) := fun x hx => by
    have := set_le (a := 67108864) (fun y hy => Nat.le_of_lt (HN.out.2 y hy)) (Nat.le_refl 5) x hx
    omega
  clear hgr H2 H3 H4 HB2
  generalize n.set 0 (Sp.nth n 0 + 5) = n5 at *
  generalize Sp.nth n 0 = y at *
  have e1 : ((y + 5 : Nat) : Int) = (y : Int) + 5 := by omega
  rw [e1] at HS H5 H6 HB3
  go_wp2_with fail
  generalize W2.setCell ⟨w.heap.size + 2, 0, none⟩ (.int .u64 ((y : Int) + 5)) = W3 at *
  clear c0 f0
  refine (carry_any n5 (w.heap.size + 2) W3 HS.out HSL.out HSB.out).mono ?_
  rintro e w1 ⟨d, ov, rfl, hcd, hw1, hg1⟩
  have HD : Hid (Carried n5 d ov) := hcd
  have HDL : Hid (d.length = 5) := hcd.1
  have H7 : Hid (WAt w1 (w.heap.size + 2) d) := hw1
  have H8 : Hid (WAt w1 w.heap.size n) := H5.out.grown hg1 (by omega)
  have H9 : Hid (WAt w1 (w.heap.size + 1) (List.replicate 5 0)) := H6.out.grown hg1 (by omega)
  have HB9 : Hid (Below w.heap.size w w1) := below_grown HB3.out hg1 (by omega)
  have hv : ov < 274877906944 := hcd.2.2.2
  clear hcd hw1 hg1 HS H5 H6 HB3
  by_cases h0 : 0 < ov
  · have o0 : (0 : Int) < (ov : Int) := by omega
    go_wp2_with (first | with_reducible (refine stop_load 51 ?_))
    refine Stop.go ?_
    with_reducible refine law_load_arr (w.heap.size + 2) 0 .u64 d _ ?ux ?uc under38 rfl ?ui ?uk
    case ux => exact rfl
    case uc => exact rangeAt_of_row H7.out
    case ui => rw [HDL.out]; exact info38
    go_wp2_with (first | with_reducible (refine stop_store 51 ?_))
    refine Stop.go ?_
    with_reducible refine law_store (w.heap.size + 1) 0 (arr .u64 d) ?tx ?ty ?tt ?ti (ints_one _ _) ?tk
    case tx => exact rfl
    case ty => exact rfl
    case tt => rw [arr_size, HDL.out]; exact there_of_row H9.out 5 (by simp [arr_size])
    case ti => rw [arr_size, HDL.out]; exact info38
    go_wp2_with fail
    refine bodyPost_ret (v := .agg (arr .u64 d)) (results_row rfl _ _ (w.heap.size + 1) 0 (ints .u64 d) _ rfl ?_ under38 rfl ?_) rfl ⟨d, rfl, ⟨HD.out.1, HD.out.2.1⟩, ?_, ?_⟩
    · exact World.rangeAt_setCells_same _ _ _ _ (by rw [arr_list, ints_length, HDL.out]; exact there_of_row H9.out 5 (by simp [arr_size]))
    · rw [ints_length, HDL.out]; exact info38
    · have h1 := HD.out.2.2.1
      rw [HPS.out] at h1
      have h2 := wide_lt HN.out
      have h3 : ov = 1 := by
        have h5 : Po.B ^ 5 = 1361129467683753853853498429727072845824 := by decide
        rw [h5] at h1 h2
        omega
      rw [h3, Nat.mul_one] at h1
      rw [← mod_once h2 (by omega)]
      omega
    · exact Below.setCells _ _ _ HB9.out (by omega)
  · have o0 : ¬ (0 : Int) < (ov : Int) := by omega
    go_wp2_with (first | with_reducible (refine stop_load 51 ?_))
    refine Stop.go ?_
    with_reducible refine law_load_arr w.heap.size 0 .u64 n _ ?vx ?vc under38 rfl ?vi ?vk
    case vx => exact rfl
    case vc => exact rangeAt_of_row H8.out
    case vi => rw [HNL.out]; exact info38
    go_wp2_with (first | with_reducible (refine stop_store 51 ?_))
    refine Stop.go ?_
    with_reducible refine law_store (w.heap.size + 1) 0 (arr .u64 n) ?rx ?ry ?rt ?ri (ints_one _ _) ?rk
    case rx => exact rfl
    case ry => exact rfl
    case rt => rw [arr_size, HNL.out]; exact there_of_row H9.out 5 (by simp [arr_size])
    case ri => rw [arr_size, HNL.out]; exact info38
    go_wp2_with fail
    refine bodyPost_ret (v := .agg (arr .u64 n)) (results_row rfl _ _ (w.heap.size + 1) 0 (ints .u64 n) _ rfl ?_ under38 rfl ?_) rfl ⟨n, rfl, HN.out, ?_, ?_⟩
    · exact World.rangeAt_setCells_same _ _ _ _ (by rw [arr_list, ints_length, HNL.out]; exact there_of_row H9.out 5 (by simp [arr_size]))
    · rw [ints_length, HNL.out]; exact info38
    · have h1 := HD.out.2.2.1
      rw [HPS.out] at h1
      have h3 : ov = 0 := by omega
      rw [h3, Nat.mul_zero, Nat.add_zero] at h1
      have h2 := wide_lt (d := d) ⟨HD.out.1, HD.out.2.1⟩
      rw [Po.B5] at h2
      exact (Nat.mod_eq_of_lt (by omega)).symm
    · exact Below.setCells _ _ _ HB9.out (by omega)
end Go.Proofs.Ytnceiccciaihoaa.P4
