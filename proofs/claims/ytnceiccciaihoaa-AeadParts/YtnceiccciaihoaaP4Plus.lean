/- The contract of plus. -/
import Derived.Test.YtnceiccciaihoaaP4Carry
namespace Go.Proofs.Ytnceiccciaihoaa.P4
open Go.RowKit
def zeros5 : Array Value := arr .u64 (List.replicate 5 0)
theorem zeros5_eq : #[Value.int IntKind.u64 0, Value.int IntKind.u64 0, Value.int IntKind.u64 0, Value.int IntKind.u64 0, Value.int IntKind.u64 0] = zeros5 := rfl
theorem info38 : (Try.prog.info? 51).map (·.size) = some 5 := by kernel_rfl
theorem under38 : Try.prog.underlying 51 = some (.array 5 49) := by kernel_rfl
/-- The first k sums of two numbers' digits. -/
def sumTo (n m : List Nat) (k : Nat) : List Nat := (List.range k).map fun i => Sp.nth n i + Sp.nth m i
theorem sumTo_length (n m : List Nat) (k : Nat) : (sumTo n m k).length = k := by simp [sumTo]
theorem sumTo_succ (n m : List Nat) (k : Nat) : sumTo n m (k + 1) = sumTo n m k ++ [Sp.nth n k + Sp.nth m k] := by simp [sumTo, List.range_succ]
theorem sumTo_pos (n m : List Nat) (hn : n.length = 5) (hm : m.length = 5) : ∀ k, k ≤ 5 → Po.pos Po.B (sumTo n m k) = Po.pos Po.B (n.take k) + Po.pos Po.B (m.take k)
  | 0, _ => by simp [sumTo, Po.pos]
  | k + 1, h => by
    rw [sumTo_succ, Po.pos_snoc, sumTo_length, sumTo_pos n m hn hm k (by omega), Po.pos_take _ (by omega), Po.pos_take _ (by omega), Nat.mul_add]
    omega
theorem sum_pos (n m : List Nat) (hn : n.length = 5) (hm : m.length = 5) : Po.pos Po.B (sumTo n m 5) = Po.pos Po.B n + Po.pos Po.B m := by
  have h1 : n.take 5 = n := List.take_of_length_le (by omega)
  have h2 : m.take 5 = m := List.take_of_length_le (by omega)
  rw [sumTo_pos n m hn hm 5 (by omega), h1, h2]
theorem sum_lt {n m : List Nat} {a b : Nat} (ha : 0 < a) (hb : 0 < b) (hn : ∀ x ∈ n, x < a) (hm : ∀ x ∈ m, x < b) : ∀ x ∈ sumTo n m 5, x < a + b := fun x hx => by
  obtain ⟨i, _, rfl⟩ := List.mem_map.1 hx
  have := Sp.nth_lt ha hn i
  have := Sp.nth_lt hb hm i
  show Sp.nth n i + Sp.nth m i < _
  omega
def threeW (w : World) (n m : List Nat) : World := ((w.alloc (Obj.cells (arr .u64 n) 51)).alloc (Obj.cells (arr .u64 m) 51)).alloc (Obj.cells zeros5 51)
theorem threeW_0 (w : World) (n m : List Nat) : WAt (threeW w n m) w.heap.size n := by
  show (((w.heap.push _).push _).push _)[_]? = _
  rw [Array.getElem?_push_lt (by simp; omega), Array.getElem_push_lt (by simp), Array.getElem_push_eq]
theorem threeW_1 (w : World) (n m : List Nat) : WAt (threeW w n m) (w.heap.size + 1) m := by
  show (((w.heap.push _).push _).push _)[_]? = _
  rw [Array.getElem?_push_lt (by simp), Array.getElem_push, dif_neg (by simp)]
theorem threeW_2 (w : World) (n m : List Nat) : WAt (threeW w n m) (w.heap.size + 2) (List.replicate 5 0) := by
  show (((w.heap.push _).push _).push _)[_]? = _
  rw [Array.getElem?_push, if_pos (by simp)]
  rfl
theorem threeW_size (w : World) (n m : List Nat) : (threeW w n m).heap.size = w.heap.size + 3 := by simp [threeW]
theorem threeW_below (w : World) (n m : List Nat) : Below w.heap.size w (threeW w n m) := (((Below.refl _ _).alloc (Nat.le_refl _) _).alloc (by simp) _).alloc (by simp; omega) _
theorem below_grown {w w1 w2 : World} {g : Nat} (hb : Below w.heap.size w w1) (hg : w1.grownBy w2 (some g)) (hk : w.heap.size ≤ g) : Below w.heap.size w w2 :=
  ⟨hg.os.trans hb.os, hg.tape.trans hb.tape, hg.output.trans hb.output, Nat.le_trans hb.size hg.size, fun k hk' => (hg.block k (Nat.lt_of_lt_of_le hk' hb.size) (by simp; omega)).trans (hb.block k hk')⟩
set_option maxHeartbeats 1000000 in
theorem plus_any (n m : List Nat) (w : World) (hln : n.length = 5) (hlm : m.length = 5) (hn : ∀ x ∈ n, x < 4611686018427387904) (hm : ∀ x ∈ m, x < 4611686018427387904) :
    Calls Try.prog 27 #[.agg (arr .u64 n), .agg (arr .u64 m)] w fun e w' => e = .returned (.agg (arr .u64 (sumTo n m 5))) ∧ Below w.heap.size w w' := by
  have HLN : Hid (n.length = 5) := hln
  have HLM : Hid (m.length = 5) := hlm
  have HN : Hid (∀ x ∈ n, x < 4611686018427387904) := hn
  have HM : Hid (∀ x ∈ m, x < 4611686018427387904) := hm
  clear hln hlm hn hm
  obtain ⟨R, hR⟩ : ∃ R, sumTo n m 5 = R := ⟨_, rfl⟩
  rw [hR]
  have HR : Hid (sumTo n m 5 = R) := hR
  clear hR
  go_enter Try.func27, Try.ntmps27
  go_wp2_with fail
  rw [zeros5_eq, show ((w.alloc (Obj.cells (arr .u64 n) 51)).alloc (Obj.cells (arr .u64 m) 51)).alloc (Obj.cells zeros5 51) = threeW w n m from rfl]
  have H0 : Hid (WAt (threeW w n m) w.heap.size n) := threeW_0 w n m
  have H1 : Hid (WAt (threeW w n m) (w.heap.size + 1) m) := threeW_1 w n m
  have H2 : Hid (WAt (threeW w n m) (w.heap.size + 2) (List.replicate 5 0)) := threeW_2 w n m
  have HB : Hid (Below w.heap.size w (threeW w n m)) := threeW_below w n m
  generalize threeW w n m = W at *
  go_loopw [6] (fun i wr => ∃ k : Nat, k ≤ 5 ∧ i = .int .i64 k ∧ Hid (WAt wr w.heap.size (sumTo n m k ++ n.drop k)) ∧ Hid (W.grownBy wr (some w.heap.size))) (fun i _ => 5 - (intOf i).toNat)
  case atStart => exact ⟨0, by omega, rfl, H0.out, grownBy_refl _ _⟩
  case round =>
    clear H0
    obtain ⟨k, hk, rfl, H3, G3⟩ := hrel
    by_cases hlt : k < 5
    · have h1 := H3.out
      rw [drop_nth (l := n) (k := k) (by rw [HLN.out]; exact hlt)] at h1
      have ck := h1.cell k (by simp [sumTo_length])
      rw [nth_snoc _ _ _ k (sumTo_length _ _ _)] at ck
      have fk := h1.may k
      have cm := (H1.out.grown G3.out (by omega)).cell k (by rw [HLM.out]; exact hlt)
      have x1 : Sp.nth n k < 4611686018427387904 := Sp.nth_lt (by decide) HN.out k
      have x2 : Sp.nth m k < 4611686018427387904 := Sp.nth_lt (by decide) HM.out k
      have HS : Hid (WAt ((wr.setCell ⟨w.heap.size, k, none⟩ (.int .u64 ((Sp.nth n k + Sp.nth m k : Nat) : Int))).drew) w.heap.size (sumTo n m (k + 1) ++ n.drop (k + 1))) := by
        have := h1.set k (Sp.nth n k + Sp.nth m k)
        rw [set_snoc _ _ _ _ k (sumTo_length _ _ _)] at this
        rw [sumTo_succ, List.append_assoc]
        exact this
      have HG : Hid (W.grownBy ((wr.setCell ⟨w.heap.size, k, none⟩ (.int .u64 ((Sp.nth n k + Sp.nth m k : Nat) : Int))).drew) (some w.heap.size)) := grownBy_drewN (grownBy_set G3.out k _) 1
      clear h1 H3 G3
      generalize Sp.nth n k = y at *
      generalize Sp.nth m k = z at *
      have k0 : (0 : Int) ≤ (k : Int) := by omega
      have k1 : (k : Int) < 5 := by omega
      have e1 : ((y + z : Nat) : Int) = (y : Int) + (z : Int) := by omega
      rw [e1] at HS HG
      go_wp2
      go_region
      go_wp2
      go_roundw
      case rel => exact ⟨k + 1, by omega, by go_num, HS.out, HG.out⟩
      case measure => simp [intOf]; omega
    · obtain rfl : k = 5 := by omega
      have h5 : n.drop 5 = [] := List.drop_eq_nil_of_le (by rw [HLN.out]; exact Nat.le_refl _)
      have h1 := H3.out
      rw [h5, List.append_nil, HR.out] at h1
      have H5 : Hid (WAt wr w.heap.size R) := h1
      have H6 : Hid (WAt wr (w.heap.size + 2) (List.replicate 5 0)) := H2.out.grown G3.out (by omega)
      have HB6 : Hid (Below w.heap.size w wr) := below_grown HB.out G3.out (Nat.le_refl _)
      have HSL : Hid (R.length = 5) := by show _ = _; rw [← HR.out]; exact sumTo_length _ _ _
      clear h1 h5 H3 G3 H1 H2 HB HN HM HR
      go_wp2_with (first | with_reducible (refine stop_load 51 ?_))
      refine Stop.go ?_
      with_reducible refine law_load_arr w.heap.size 0 .u64 R _ ?ux ?uc under38 rfl ?ui ?uk
      case ux => exact rfl
      case uc => exact rangeAt_of_row H5.out
      case ui => rw [HSL.out]; exact info38
      go_wp2_with (first | with_reducible (refine stop_store 51 ?_))
      refine Stop.go ?_
      with_reducible refine law_store (w.heap.size + 2) 0 (arr .u64 R) ?tx ?ty ?tt ?ti (ints_one _ _) ?tk
      case tx => exact rfl
      case ty => exact rfl
      case tt => rw [arr_size, HSL.out]; exact there_of_row H6.out 5 (by simp [arr_size])
      case ti => rw [arr_size, HSL.out]; exact info38
      go_wp2_with fail
      refine bodyPost_ret (v := .agg (arr .u64 R)) (results_row rfl _ _ (w.heap.size + 2) 0 (ints .u64 R) _ rfl ?_ under38 rfl ?_) rfl ⟨rfl, ?_⟩
      · exact World.rangeAt_setCells_same _ _ _ _ (by rw [arr_list, ints_length, HSL.out]; exact there_of_row H6.out 5 (by simp [arr_size]))
      · rw [ints_length, HSL.out]; exact info38
      · exact Below.setCells _ _ _ HB6.out (by omega)
end Go.Proofs.Ytnceiccciaihoaa.P4
