/- The contracts of appendNumber and readNumber. -/
import Derived.Test.YtagdlpodpokmmaaDoorS7Base
namespace Go.Proofs.YtagdlpodpokmmaaDoor.S7
open Go.RowKit
theorem be_nth : ∀ (k i n : Nat), i < k → Sp.nth (Su.be k n) i = n / 256 ^ (k - 1 - i) % 256
  | 0, _, _, h => by omega
  | k + 1, i, n, h => by
    rw [Su.be]
    by_cases hi : i < k
    · rw [Sp.nth_append_left (by rw [Su.be_length]; exact hi), be_nth k i (n / 256) hi, Nat.div_div_eq_div_mul, Nat.mul_comm, ← Nat.pow_succ]
      congr 3
      omega
    · obtain rfl : i = k := by omega
      have := Sp.nth_append_right (l := Su.be i (n / 256)) (m := [n % 256]) 0
      rw [Su.be_length, Nat.add_zero] at this
      rw [this]
      simp [Sp.nth]
theorem take_succ_nth {l : List Nat} {i : Nat} (h : i < l.length) : l.take (i + 1) = l.take i ++ [Sp.nth l i] := by
  rw [List.take_succ_eq_append_getElem h]
  simp [Sp.nth, h]
theorem shr_byte {m i x : Nat} (h : x = m / 256 ^ i % 256) : (m : Int) / 2 ^ (8 * i) % 256 = (x : Int) := by
  subst h
  have e : (256 : Nat) ^ i = 2 ^ (8 * i) := by rw [show (256 : Nat) = 2 ^ 8 from rfl, ← Nat.pow_mul]
  rw [e, Int.natCast_emod, Int.natCast_ediv, Int.natCast_pow]
  rfl
set_option maxHeartbeats 1000000 in
theorem appendNumber_any (l : List Nat) (v : Value) (n base m : Nat) (w : World) (hown : w.ownsRow base 5 1 v n (ints .u8 l)) (hn : n ≤ 90000) (hbase : base ≤ w.heap.size) (_ : m < 4611686018427387904) :
    Calls Tryd.prog 35 #[v, .int .i64 (m : Int)] w fun e w' => ∃ v', e = .returned v' ∧ w'.ownsRow base 5 1 v' (n + 8) (ints .u8 (l ++ Su.be 8 m)) ∧ Below base w w' := by
  have HO0 : Hid (w.ownsRow base 5 1 v n (ints .u8 l)) := hown
  have HBS : Hid (base ≤ w.heap.size) := hbase
  have HEL : Hid ((Su.be 8 m).length = 8) := Su.be_length 8 m
  have HEN : Hid (∀ i, i < 8 → Sp.nth (Su.be 8 m) i = m / 256 ^ (7 - i) % 256) := fun i hi => be_nth 8 i m hi
  obtain ⟨E, hE⟩ : ∃ E, Su.be 8 m = E := ⟨_, rfl⟩
  rw [hE] at HEL HEN ⊢
  clear hown hbase hE
  obtain ⟨q0, c0, rfl⟩ := own_slice HO0.out
  go_enter Tryd.func35, Tryd.ntmps35
  go_wp2_with fail
  go_loopw [0, 6] (fun sl u wr => ∃ i : Nat, i ≤ 8 ∧ u = .int .i64 i ∧ Hid (wr.ownsRow base 5 1 sl (n + i) (ints .u8 (l ++ E.take i))) ∧ Hid (Below base w wr)) (fun _ u _ => 8 - (intOf u).toNat)
  case atStart =>
    have h0 : w.ownsRow base 5 1 (.slice q0 n c0) (n + 0) (ints .u8 (l ++ E.take 0)) := by simpa using HO0.out
    exact ⟨0, by omega, rfl, h0, Below.refl _ _⟩
  case round =>
    obtain ⟨i, hi, rfl, HO, HW⟩ := hrel
    obtain ⟨q, cq, rfl⟩ := own_slice HO.out
    have HB2 : Hid (base ≤ wr.heap.size) := Nat.le_trans HBS.out HW.out.size
    by_cases hlt : i < 8
    · have HTS : Hid (E.take (i + 1) = E.take i ++ [Sp.nth E i]) := take_succ_nth (by rw [HEL.out]; exact hlt)
      have g1 : (i : Int) < 8 := by omega
      have i0 : (0 : Int) ≤ (i : Int) := by omega
      go_wp2_with (first | with_reducible (refine stop_builtin .append ?_))
      refine Stop.go ?_
      have HEI : Sp.nth E i < 256 := by rw [HEN.out i hlt]; exact Nat.mod_lt _ (by decide)
      rw [shr_byte (HEN.out i hlt)]
      generalize Sp.nth E i = x at *
      have HO2 : Hid ((wr.alloc (Obj.cells #[.int .u8 (x : Int)] 5)).ownsRow base 5 1 (.slice q (n + i) cq) (n + i) (ints .u8 (l ++ E.take i))) := ownsRow_alloc HO.out _
      have HW2 : Hid (Below base w (wr.alloc (Obj.cells #[.int .u8 (x : Int)] 5))) := HW.out.alloc HB2.out _
      refine law_append_src base _ (n + i) (l ++ E.take i) (.slice (some ⟨wr.heap.size, 0, none⟩) 1 1) [x] rfl rfl HO2.out (one_src wr x HEI) (by simp; omega) (by have := HB2.out; simp; omega) ?_
      intro v' w' hown' hg'
      have hb' := below_append HO2.out hg' (by have := HB2.out; simp; omega)
      have HO3 : Hid (w'.ownsRow base 5 1 v' (n + (i + 1)) (ints .u8 (l ++ E.take (i + 1)))) := by
        rw [HTS.out, ← List.append_assoc]
        exact hown'
      have HW3 : Hid (Below base w w') := HW2.out.trans hb'
      clear hown' hb' hg' HO HW HO2 HW2 HTS
      go_wp2_with fail
      go_roundw
      case rel =>
        first
          | exact ⟨i + 1, by omega, by go_num, HO3.out, HW3.out⟩
          | ((repeat apply Exists.intro)
             refine ⟨⟨i + 1, by omega, ?_, HO3.out, HW3.out⟩, rfl⟩
             go_num)
      case measure => simp [intOf]; omega
    · obtain rfl : i = 8 := by omega
      have h1 := HO.out
      rw [List.take_of_length_le (by rw [HEL.out]; exact Nat.le_refl _)] at h1
      have HO1 : Hid (wr.ownsRow base 5 1 (.slice q (n + 8) cq) (n + 8) (ints .u8 (l ++ E))) := h1
      clear h1 HO
      go_wp2_with fail
      go_ret
      exact ⟨_, rfl, HO1.out, HW.out⟩
theorem or_byte {a x : Nat} (ha : a < 72057594037927936) (hx : x < 256) : bits BinOp.or .u64 ((a * 256 : Nat) : Int) (x : Int) = ((a * 256 + x : Nat) : Int) := by
  rw [u64_or_nat _ _ (by omega) (by omega)]
  congr 1
  rw [Nat.mul_comm]
  exact (Nat.two_pow_add_eq_or_of_lt (i := 8) hx a).symm
theorem val_take {l : List Nat} {k : Nat} (h : k < l.length) : Su.val (l.take (k + 1)) = Su.val (l.take k) * 256 + Sp.nth l k := by
  rw [take_succ_nth h, Su.val_snoc]
theorem wrap_signed {n : Nat} (h : n < 18446744073709551616) : wrap64 (n : Int) = Su.signed n := by
  unfold wrap64 Su.signed
  split <;> omega
set_option maxHeartbeats 1000000 in
theorem readNumber_any (l : List Nat) (b o c : Nat) (w : World) (hl : l.length = 8) (hs : ∀ x ∈ l, x < 256) (hr : w.rangeAt b o (ints .u8 l)) :
    Calls Tryd.prog 61 #[.slice (some ⟨b, o, none⟩) 8 c] w fun e w' => e = .returned (.int .i64 (Su.signed (Su.val l))) ∧ w' = w := by
  have HV : Hid (∀ k, k < 8 → Su.val (l.take (k + 1)) = Su.val (l.take k) * 256 + Sp.nth l k) := fun k hk => val_take (by omega)
  have HL : Hid (∀ k, k ≤ 7 → Su.val (l.take k) < 72057594037927936) := fun k hk => by
    have h1 := Su.val_lt (l.take k) (fun x hx => hs x (List.mem_of_mem_take hx))
    have h2 : (l.take k).length ≤ 7 := by rw [List.length_take]; omega
    exact Nat.lt_of_lt_of_le h1 (Nat.le_trans (Nat.pow_le_pow_right (by decide) h2) (by decide))
  have HC : Hid (∀ k, k < 8 → w.cell? ⟨b, o + k, none⟩ = some (.int .u8 (Sp.nth l k : Nat))) := fun k hk => hr k _ (ints_get _ _ _ (by omega))
  have HX : Hid (∀ k, k < 8 → Sp.nth l k < 256) := fun k _ => Sp.nth_lt (by decide) hs k
  have HE : Hid (l.take 8 = l) := List.take_of_length_le (by omega)
  have H0 : Hid (Su.val (l.take 0) = 0) := rfl
  have H64 : Hid (Su.val l < 18446744073709551616) := by
    have h1 := Su.val_lt l hs
    rw [hl] at h1
    exact h1
  clear hl hs hr
  go_enter Tryd.func61, Tryd.ntmps61
  go_wp2_with fail
  go_loop [3, 8] (fun n i => ∃ k : Nat, k ≤ 8 ∧ i = .int .i64 k ∧ n = .int .u64 (Su.val (l.take k) : Nat)) (fun _ i => 8 - (intOf i).toNat)
  case atStart => exact ⟨0, by omega, rfl, by rw [H0.out]; rfl⟩
  case round =>
    obtain ⟨k, hk, rfl, rfl⟩ := hrel
    by_cases hlt : k < 8
    · have hx := HX.out k hlt
      have hcell := HC.out k hlt
      have hv := HL.out k (by omega)
      have HN := HV.out k hlt
      rw [show Su.val (l.take (k + 1)) = Su.val (l.take (k + 1)) from rfl] at HN
      have HNH : Hid (Su.val (l.take (k + 1)) = Su.val (l.take k) * 256 + Sp.nth l k) := HN
      clear HN
      generalize Su.val (l.take k) = a at *
      generalize Sp.nth l k = x at *
      have hor : bits BinOp.or .u64 ((a : Int) * 256) (x : Int) = (a : Int) * 256 + (x : Int) := by
        have h1 := or_byte hv hx
        rw [Int.natCast_mul, Int.natCast_add, Int.natCast_mul] at h1
        exact h1
      have k1 : (k : Int) < 8 := by omega
      have k0 : (0 : Int) ≤ (k : Int) := by omega
      go_wp2_with fail
      go_round
      case rel => exact ⟨k + 1, by omega, by go_num, by rw [HNH.out]; go_num⟩
      case measure => simp [intOf]; omega
    · obtain rfl : k = 8 := by omega
      have HE2 : Hid (wrap64 ((Su.val l : Nat) : Int) = Su.signed (Su.val l)) := wrap_signed H64.out
      rw [HE.out]
      clear HE HV HL H0
      go_wp2_with fail
      go_ret
      exact ⟨ret_int HE2.out, rfl⟩
end Go.Proofs.YtagdlpodpokmmaaDoor.S7
