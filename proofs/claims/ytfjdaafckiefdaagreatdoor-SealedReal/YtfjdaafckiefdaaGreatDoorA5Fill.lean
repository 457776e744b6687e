/- The contracts of fillUp and appendCount. -/
import Derived.Test.YtfjdaafckiefdaaGreatDoorA5App
namespace Go.Proofs.YtfjdaafckiefdaaGreatDoor.A5
open Go.RowKit P4
theorem lack_step {n k : Nat} (h : (n + k) % 16 ≠ 0) (hk : k ≤ Ae.lack n) : k + 1 ≤ Ae.lack n := by unfold Ae.lack at *; omega
theorem lack_done {n k : Nat} (h : (n + k) % 16 = 0) (hk : k ≤ Ae.lack n) : k = Ae.lack n := by unfold Ae.lack at *; omega
theorem rep_snoc (l : List Nat) (k : Nat) : l ++ List.replicate (k + 1) 0 = (l ++ List.replicate k 0) ++ [0] := by rw [List.replicate_succ', List.append_assoc]
theorem one_src (w : World) (x : Nat) (h : x < 256) : Src (w.alloc (.cells #[.int .u8 (x : Int)] 5)) (.slice (some ⟨w.heap.size, 0, none⟩) 1 1) [x] :=
  Src.row (fun y hy => by rw [List.mem_singleton.1 hy]; exact h) (Nat.le_refl 1) (rangeAt_of_row (t := 5) (fr := (0, 0)) (heap_alloc_new w _)) rfl
set_option maxHeartbeats 1000000 in
theorem fillUp_any (l : List Nat) (v : Value) (n base : Nat) (w : World) (hown : w.ownsRow base 5 1 v n (ints .u8 l)) (hn : n ≤ 90000) (hbase : base ≤ w.heap.size) :
    Calls Tryz.prog 153 #[v] w fun e w' => ∃ v', e = .returned v' ∧ w'.ownsRow base 5 1 v' (n + Ae.lack n) (ints .u8 (l ++ List.replicate (Ae.lack n) 0)) ∧ Below base w w' := by
  have HO0 : Hid (w.ownsRow base 5 1 v n (ints .u8 l)) := hown
  have HBS : Hid (base ≤ w.heap.size) := hbase
  have HLK : Hid (Ae.lack n < 16) := Ae.lack_le n
  clear hown hbase
  obtain ⟨q0, c0, rfl⟩ := own_slice HO0.out
  go_enter Tryz.func153, Tryz.ntmps153
  go_wp2_with fail
  go_loopw [0] (fun sl wr => ∃ k : Nat, k ≤ Ae.lack n ∧ Hid (wr.ownsRow base 5 1 sl (n + k) (ints .u8 (l ++ List.replicate k 0))) ∧ Hid (Below base w wr)) (fun sl _ => match sl with | .slice _ m _ => n + Ae.lack n - m | _ => 0)
  case atStart =>
    have h0 : w.ownsRow base 5 1 (.slice q0 n c0) (n + 0) (ints .u8 (l ++ List.replicate 0 0)) := by simpa using HO0.out
    exact ⟨0, Nat.zero_le _, h0, Below.refl _ _⟩
  case round =>
    obtain ⟨k, hk, HO, HW⟩ := hrel
    obtain ⟨q, cq, rfl⟩ := own_slice HO.out
    have HB2 : Hid (base ≤ wr.heap.size) := Nat.le_trans HBS.out HW.out.size
    by_cases h16 : (n + k) % 16 = 0
    · have HKE : Hid (k = Ae.lack n) := lack_done h16 hk
      have g1 : ((n + k : Nat) : Int) % 16 = 0 := by omega
      go_wp2_with fail
      go_ret
      obtain rfl := HKE.out
      exact ⟨_, rfl, HO.out, HW.out⟩
    · have g1 : ¬ ((n + k : Nat) : Int) % 16 = 0 := by omega
      have HK1 : Hid (k + 1 ≤ Ae.lack n) := lack_step h16 hk
      have HKL := HLK.out
      go_wp2_with (first | with_reducible (refine stop_builtin .append ?_))
      refine Stop.go ?_
      have HO2 : Hid ((wr.alloc (Obj.cells #[.int .u8 ((0 : Nat) : Int)] 5)).ownsRow base 5 1 (.slice q (n + k) cq) (n + k) (ints .u8 (l ++ List.replicate k 0))) := ownsRow_alloc HO.out _
      have HW2 : Hid (Below base w (wr.alloc (Obj.cells #[.int .u8 ((0 : Nat) : Int)] 5))) := HW.out.alloc HB2.out _
      refine law_append_src base _ (n + k) (l ++ List.replicate k 0) (.slice (some ⟨wr.heap.size, 0, none⟩) 1 1) [0] rfl rfl HO2.out (one_src wr 0 (by decide)) (by simp; omega) (by have := HB2.out; simp; omega) ?_
      intro v' w' hown' hb'
      have HO3 : Hid (w'.ownsRow base 5 1 v' (n + (k + 1)) (ints .u8 (l ++ List.replicate (k + 1) 0))) := by
        rw [rep_snoc]
        exact hown'
      have HW3 : Hid (Below base w w') := HW2.out.trans hb'
      obtain ⟨q', c', rfl⟩ := own_slice hown'
      clear hown' hb' HO HW HO2 HW2
      go_wp2_with fail
      go_roundw
      case rel => exact ⟨k + 1, HK1.out, HO3.out, HW3.out⟩
      case measure => have := HK1.out; simp; omega
theorem digs_nth (b : Nat) : ∀ k i v, i < k → Sp.nth (Po.digs b k v) i = v / b ^ i % b
  | 0, _, _, h => by omega
  | k + 1, 0, v, _ => by simp [Po.digs, Sp.nth]
  | k + 1, i + 1, v, h => by
    have := digs_nth b k i (v / b) (by omega)
    rw [Nat.pow_succ, Nat.mul_comm, ← Nat.div_div_eq_div_mul]
    exact this
theorem shr_byte {m i x : Nat} (h : x = m / 256 ^ i % 256) : (m : Int) / 2 ^ (8 * i) % 256 = (x : Int) := by
  subst h
  have e : (256 : Nat) ^ i = 2 ^ (8 * i) := by rw [show (256 : Nat) = 2 ^ 8 from rfl, ← Nat.pow_mul]
  rw [e, Int.natCast_emod, Int.natCast_ediv, Int.natCast_pow]
  rfl
set_option maxHeartbeats 1000000 in
theorem count_any (l : List Nat) (v : Value) (n base m : Nat) (w : World) (hown : w.ownsRow base 5 1 v n (ints .u8 l)) (hn : n ≤ 90000) (hbase : base ≤ w.heap.size) (_ : m < 4611686018427387904) :
    Calls Tryz.prog 154 #[v, .int .i64 (m : Int)] w fun e w' => ∃ v', e = .returned v' ∧ w'.ownsRow base 5 1 v' (n + 8) (ints .u8 (l ++ Ae.eight m)) ∧ Below base w w' := by
  have HO0 : Hid (w.ownsRow base 5 1 v n (ints .u8 l)) := hown
  have HBS : Hid (base ≤ w.heap.size) := hbase
  have HEL : Hid ((Ae.eight m).length = 8) := Ae.eight_length m
  have HEN : Hid (∀ i, i < 8 → Sp.nth (Ae.eight m) i = m / 256 ^ i % 256) := fun i hi => digs_nth 256 8 i m hi
  obtain ⟨E, hE⟩ : ∃ E, Ae.eight m = E := ⟨_, rfl⟩
  rw [hE] at HEL HEN ⊢
  clear hown hbase hE
  obtain ⟨q0, c0, rfl⟩ := own_slice HO0.out
  go_enter Tryz.func154, Tryz.ntmps154
  go_wp2_with fail
  go_loopw [0, 6] (fun sl u wr => ∃ i : Nat, i ≤ 8 ∧ u = .int .i64 i ∧ Hid (wr.ownsRow base 5 1 sl (n + i) (ints .u8 (l ++ E.take i))) ∧ Hid (Below base w wr)) (fun _ u _ => 8 - (intOf u).toNat)
  case atStart =>
    have h0 : w.ownsRow base 5 1 (.slice q0 n c0) (n + 0) (ints .u8 (l ++ E.take 0)) := by simpa using HO0.out
    exact ⟨0, by omega, rfl, h0, Below.refl _ _⟩
  case round =>
    obtain ⟨i, hi, rfl, HO, HW⟩ := hrel
    obtain ⟨q, cq, rfl⟩ := own_slice HO.out
    have HB2 : Hid (base ≤ wr.heap.size) := Nat.le_trans HBS.out HW.out.size
    by_cases hlt : i < 8
    · have HTS : Hid (E.take (i + 1) = E.take i ++ [Sp.nth E i]) := Po.take_succ_nth (by rw [HEL.out]; exact hlt)
      have g1 : (i : Int) < 8 := by omega
      have i0 : (0 : Int) ≤ (i : Int) := by omega
      go_wp2_with (first | with_reducible (refine stop_builtin .append ?_))
      refine Stop.go ?_
      have HEI : Sp.nth E i < 256 := by rw [HEN.out i hlt]; exact Nat.mod_lt _ (by decide)
      rw [shr_byte (HEN.out i hlt)]
      generalize Sp.nth E i = x at *
      have HO2 : Hid ((wr.alloc (Obj.cells #[.int .u8 (x : Int)] 5)).ownsRow base 5 1 (.slice q (n + i) cq) (n + i) (ints .u8 (l ++ E.take i))) := ownsRow_alloc HO.out _
      have HW2 : Hid (Below base w (wr.alloc (Obj.cells #[.int .u8 (x : Int)] 5))) := HW.out.alloc HB2.out _
      refine law_append_src base _ (n + i) (l ++ E.take i) (.slice (some ⟨wr.heap.size, 0, none⟩) 1 1) [x] rfl rfl HO2.out (one_src wr x HEI) (by simp; omega) (by have := HB2.out; simp; omega) ?_
      intro v' w' hown' hb'
      have HO3 : Hid (w'.ownsRow base 5 1 v' (n + (i + 1)) (ints .u8 (l ++ E.take (i + 1)))) := by
        rw [HTS.out, ← List.append_assoc]
        exact hown'
      have HW3 : Hid (Below base w w') := HW2.out.trans hb'
      clear hown' hb' HO HW HO2 HW2 HTS
      go_wp2_with fail
      go_roundw
      case rel =>
        first
          | exact ⟨i + 1, by omega, by go_num, HO3.out, HW3.out⟩
          | ((repeat apply Exists.intro)
             refine ⟨⟨i + 1, by omega, ?_, HO3.out, HW3.out⟩, rfl⟩
             go_num)
      case measure => simp [intOf]; omega
    · obtain rfl : i = 8 := by omega
      have h1 := HO.out
      rw [List.take_of_length_le (by rw [HEL.out]; exact Nat.le_refl _)] at h1
      have HO1 : Hid (wr.ownsRow base 5 1 (.slice q (n + 8) cq) (n + 8) (ints .u8 (l ++ E))) := h1
      clear h1 HO
      go_wp2_with fail
      go_ret
      exact ⟨_, rfl, HO1.out, HW.out⟩
end Go.Proofs.YtfjdaafckiefdaaGreatDoor.A5
