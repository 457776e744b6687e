/- The contracts of appendNumber and readNumber. -/
import Derived.Test.YtkiohhkmlpgdoaaDoorS7Base
namespace Go.Proofs.YtkiohhkmlpgdoaaDoor.S7
open Go.RowKit
theorem be_nth : ∀ (k i n : Nat), i < k → Sp.nth (Su.be k n) i = n / 256 ^ (k - 1 - i) % 256
  | 0, _, _, h => by omega
  | k + 1, i, n, h => by
    rw [Su.be]
    by_cases hi : i < k
    · rw [Sp.nth_append_left (by rw [Su.be_length]; exact hi), be_nth k i (n / 256) hi, Nat.div_div_eq_div_mul, Nat.mul_comm, ← Nat.pow_succ]
      congr 3
      omega
    · obtain rfl : i = k := by omega
      have := Sp.nth_append_right (l := Su.be i (n / 256)) (m := [n % 256]) 0
      rw [Su.be_length, Nat.add_zero] at this
      rw [this]
      simp [Sp.nth]
theorem take_succ_nth {l : List Nat} {i : Nat} (h : i < l.length) : l.take (i + 1) = l.take i ++ [Sp.nth l i] := by
  rw [List.take_succ_eq_append_getElem h]
  simp [Sp.nth, h]
theorem shr_byte {m i x : Nat} (h : x = m / 256 ^ i % 256) : (m : Int) / 2 ^ (8 * i) % 256 = (x : Int) := by
  subst h
  have e : (256 : Nat) ^ i = 2 ^ (8 * i) := by rw [show (256 : Nat) = 2 ^ 8 from rfl, ← Nat.pow_mul]
  rw [e, Int.natCast_emod, Int.natCast_ediv, Int.natCast_pow]
  rfl
set_option maxHeartbeats 1000000 in
theorem appendNumber_any (l : List Nat) (v : Value) (n base m : Nat) (w : World) (hown : w.ownsRow base 5 1 v n (ints .u8 l)) (hn : n ≤ 90000) (hbase : base ≤ w.heap.size) (_ : m < 4611686018427387904) :
    Calls Tryd.prog 59 #[v, .int .i64 (m : Int)] w fun e w' => ∃ v', e = .returned v' ∧ w'.ownsRow base 5 1 v' (n + 8) (ints .u8 (l ++ Su.be 8 m)) ∧ Below base w w' := by
  have HO0 : Hid (w.ownsRow base 5 1 v n (ints .u8 l)) := hown
  have HBS : Hid (base ≤ w.heap.size) := hbase
  have HEL : Hid ((Su.be 8 m).length = 8) := Su.be_length 8 m
  have HEN : Hid (∀ i, i < 8 → Sp.nth (Su.be 8 m) i = m / 256 ^ (7 - i) % 256) := fun i hi => be_nth 8 i m hi
  obtain ⟨E, hE⟩ : ∃ E, Su.be 8 m = E := ⟨_, rfl⟩
  rw [hE] at HEL HEN ⊢
  clear hown hbase hE
  obtain ⟨q0, c0, rfl⟩ := own_slice HO0.out
  go_enter Tryd.func59, Tryd.ntmps59
  go_wp2_with fail
  go_loopw [0, 6] (fun sl u wr => ∃ i : Nat, i ≤ 8 ∧ u = .int .i64 i ∧ Hid (wr.ownsRow base 5 1 sl (n + i) (ints .u8 (l ++ E.take i))) ∧ Hid (Below base w wr)) (fun _ u _ => 8 - (intOf u).toNat)
  case atStart =>
    have h0 : w.ownsRow base 5 1 (.slice q0 n c0) (n + 0) (ints .u8 (l ++ E.take 0)) := by simpa using HO0.out
    exact ⟨0, by omega, rfl, h0, Below.refl _ _⟩
  case round =>
    obtain ⟨i, hi, rfl, HO, HW⟩ := hrel
    obtain ⟨q, cq, rfl⟩ := own_slice HO.out
    have HB2 : Hid (base ≤ wr.heap.size) := Nat.le_trans HBS.out HW.out.size
    by_cases hlt : i < 8
    · have HTS : Hid (E.take (i + 1) = E.take i ++ [Sp.nth E i]) := take_succ_nth (by rw [HEL.out]; exact hlt)
      have g1 : (i : Int) < 8 := by omega
      have i0 : (0 : Int) ≤ (i : Int) := by omega
      go_wp2_with (first | with_reducible (refine stop_builtin .append ?_))
      refine Stop.go ?_
      have HEI : Sp.nth E i < 256 := by rw [HEN.out i hlt]; exact Nat.mod_lt _ (by decide)
      rw [shr_byte (HEN.out i hlt)]
      generalize Sp.nth E i = x at *
      have HO2 : Hid ((wr.alloc (Obj.cells #[.int .u8 (x : Int)] 5)).ownsRow base 5 1 (.slice q (n + i) cq) (n + i) (ints .u8 (l ++ E.take i))) := ownsRow_alloc HO.out _
      have HW2 : Hid (Below base w (wr.alloc (Obj.cells #[.int .u8 (x : Int)] 5))) := HW.out.alloc HB2.out _
      refine law_append_src base _ (n + i) (l ++ E.take i) (.slice (some ⟨wr.heap.size, 0, none⟩) 1 1) [x] rfl rfl HO2.out (one_src wr x HEI) (by simp; omega) (by have := HB2.out; simp; omega) ?_
      intro v' w' hown' hg'
      have hb' := below_append HO2.out hg' (by have := HB2.out; simp; omega)
      have HO3 : Hid (w'.ownsRow base 5 1 v' (n + (i + 1)) (ints .u8 (l ++ E.take (i + 1)))) := by
        rw [HTS.out, ← List.append_assoc]
        exact hown'
      have HW3 : Hid (Below base w w') := HW2.out.trans hb'
      clear hown' hb' hg' HO HW HO2 HW2 HTS
      go_wp2_with fail
      go_roundw
      case rel =>
        first
          | exact ⟨i + 1, by omega, by go_num, HO3.out, HW3.out⟩
          | ((repeat apply Exists.intro)
             refine ⟨⟨i + 1, by omega, ?_, HO3.out, HW3.out⟩, rfl⟩
             go_num)
      case measure => simp [intOf]; omega
    · obtain rfl : i = 8 := by omega
      have h1 := HO.out
      rw [List.take_of_length_le (by rw [HEL.out]; exact Nat.le_refl _)] at h1
      have HO1 : Hid (wr.ownsRow base 5 1 (.slice q (n + 8) cq) (n + 8) (ints .u8 (l ++ E))) := h1
      clear h1 HO
      go_wp2_with fail
      go_ret
      exact ⟨_, rfl, HO1.out, HW.out⟩
theorem or_byte {a x : Nat} (ha : a < 72057594037927936) (hx : x < 256) : bits BinOp.or .u64 ((a * 256 : Nat) : Int) (x : Int) = ((a * 256 + x : Nat) : Int) := by
  rw [u64_or_nat _ _ (by omega) (by omega)]
  congr 1
  rw [Nat.mul_comm]
  exact (Nat.two_pow_add_eq_or_of_lt (i := 8) hx a).symm
theorem val_take {l : List Nat} {k : Nat} (h : k < l.length) : Su.val (l.take (k + 1)) = Su.val (l.take k) * 256 + Sp.nth l k := by
  rw [take_succ_nth h, Su.val_snoc]
theorem wrap_signed {n : Nat} (h : n < 18446744073709551616) : wrap64 (n : Int) = Su.signed n := by
  unfold wrap64 Su.signed
  split <;> omega
end Go.Proofs.YtkiohhkmlpgdoaaDoor.S7
