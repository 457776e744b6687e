/- The contract of bytes: a number's sixteen bytes. -/
import Derived.Test.YtnceiccciaihoaaP4App
namespace Go.Proofs.Ytnceiccciaihoaa.P4
open Go.RowKit
theorem or_put {h d b : Nat} (hh : h < 2 ^ b) (hb : b < 8) (hd : d < 67108864) : bits BinOp.or .u64 (h : Int) ((d * 2 ^ b : Nat) : Int) = ((h + d * 2 ^ b : Nat) : Int) := by
  have h1 : 2 ^ b ≤ 2 ^ 8 := Nat.pow_le_pow_right (by decide) (by omega)
  have h2 : d * 2 ^ b ≤ 67108864 * 2 ^ 8 := Nat.mul_le_mul (by omega) h1
  rw [u64_or_nat _ _ (by omega) (by omega)]
  congr 1
  rw [Nat.or_comm, Nat.mul_comm, Nat.add_comm]
  exact (Nat.two_pow_add_eq_or_of_lt hh d).symm
theorem put_lt {h d b : Nat} (hh : h < 2 ^ b) (hd : d < 67108864) : h + d * 2 ^ b < 2 ^ (b + 26) := by
  have : (d + 1) * 2 ^ b ≤ 67108864 * 2 ^ b := Nat.mul_le_mul_right _ hd
  rw [Nat.add_mul] at this
  rw [Nat.pow_add, Nat.mul_comm (2 ^ b)]
  show _ < 67108864 * 2 ^ b
  omega
theorem pow_bits (L b k : Nat) (h : 8 * L + b = 26 * k) : 256 ^ L * 2 ^ b = Po.B ^ k := by
  rw [show Po.B = 2 ^ 26 from rfl, show (256 : Nat) = 2 ^ 8 from rfl, ← Nat.pow_mul, ← Nat.pow_mul, ← Nat.pow_add, h]
theorem pow_small {b : Nat} (h : b ≤ 33) : 2 ^ b ≤ 8589934592 := Nat.pow_le_pow_right (n := 2) (j := 33) (by decide) h
/-- What is told so far, and what is held. -/
structure Told (n : List Nat) (k : Nat) (out : List Nat) (L h b : Nat) : Prop where
  len : out.length = L
  small : ∀ x ∈ out, x < 256
  bits : 8 * L + b = 26 * k
  held : h < 2 ^ b
  val : Po.pos 256 out + 256 ^ L * h = Po.pos Po.B (n.take k)
theorem Told.put {n out : List Nat} {k L h b : Nat} (t : Told n k out L h b) (hk : k < n.length) (hn : ∀ x ∈ n, x < 67108864) : Told n (k + 1) out L (h + Sp.nth n k * 2 ^ b) (b + 26) where
  len := t.len
  small := t.small
  bits := by have := t.bits; omega
  held := put_lt t.held (Sp.nth_lt (by decide) hn k)
  val := by
    rw [Po.pos_take _ hk, ← t.val, ← pow_bits L b k t.bits, Nat.mul_add, Nat.add_assoc]
    congr 2
    rw [Nat.mul_assoc, Nat.mul_comm (2 ^ b)]
theorem Told.tell {n out : List Nat} {k L h b : Nat} (t : Told n k out L h b) (hb : 8 ≤ b) : Told n k (out ++ [h % 256]) (L + 1) (h / 256) (b - 8) where
  len := by simp [t.len]
  small := fun x hx => by
    rcases List.mem_append.1 hx with h1 | h1
    · exact t.small x h1
    · rw [List.mem_singleton.1 h1]; exact Nat.mod_lt _ (by decide)
  bits := by have := t.bits; omega
  held := by
    have h1 := t.held
    rw [show b = (b - 8) + 8 from by omega, Nat.pow_add] at h1
    exact Nat.div_lt_of_lt_mul (by rw [Nat.mul_comm]; exact h1)
  val := by
    rw [← t.val, Po.pos_snoc, t.len, Nat.pow_succ, Nat.mul_assoc, Nat.add_assoc, ← Nat.mul_add]
    congr 2
    have := Nat.mod_add_div h 256
    omega
theorem Told.done {n out : List Nat} {L h b : Nat} (t : Told n 5 out L h b) (hb : b < 8) (hn : n.length = 5) : L = 16 ∧ out = Po.digs 256 16 (Po.pos Po.B n) := by
  have hL : L = 16 := by have := t.bits; omega
  refine ⟨hL, Po.digs_of (by decide) t.small (t.len.trans hL) ?_⟩
  have h1 := t.val
  rw [List.take_of_length_le (by omega), hL] at h1
  rw [← h1, Nat.add_mul_mod_self_left, Nat.mod_eq_of_lt]
  have := Po.pos_lt (b := 256) (by decide) t.small
  rw [t.len, hL] at this
  exact this
set_option maxHeartbeats 1000000 in
theorem bytes_any (n : List Nat) (w : World) (hn : Wide n) :
    Calls Try.prog 32 #[.agg (arr .u64 n)] w fun e w' => ∃ v, e = .returned v ∧ w'.ownsRow w.heap.size 5 1 v 16 (ints .u8 (Po.digs 256 16 (Po.pos Po.B n))) ∧ Below w.heap.size w w' := by
  have HN : Hid (∀ x ∈ n, x < 67108864) := hn.2
  have HNL : Hid (n.length = 5) := hn.1
  have HI : Hid (∀ k, k < 5 → ∀ w, (Instr.index 51 (.agg (arr .u64 n)) (.int .i64 (k : Nat))).run Try.prog w = .ok (.int .u64 (Sp.nth n k : Nat)) w) := fun k hk w => run_index_arr 51 49 5 .u64 n k under38 (by kernel_rfl) (by kernel_rfl) hn.1 hk w
  clear hn
  obtain ⟨R, hR⟩ : ∃ R, Po.digs 256 16 (Po.pos Po.B n) = R := ⟨_, rfl⟩
  rw [hR]
  have HR : Hid (Po.digs 256 16 (Po.pos Po.B n) = R) := hR
  clear hR
  obtain ⟨i5, hi5, hs5, hb5, hz5⟩ := info5e
  have H5 : Hid (Try.prog.info? 5 = some i5 ∧ i5.size = 1 ∧ i5.bytes = 1 ∧ i5.zero = some (.int .u8 0)) := ⟨hi5, hs5, hb5, hz5⟩
  clear hi5 hs5 hb5 hz5
  go_enter Try.func32, Try.ntmps32
  go_wp2_with (first | (at_make; refine wpList_make_own (w.alloc (Obj.cells (arr .u64 n) 51)) rfl _ _ 22 rfl w.heap.size 5 i5 (.int .u8 0) 1 Try.underlying22 H5.out.1 H5.out.2.2.2 H5.out.2.1 .i64 .i64 16 16 rfl rfl rfl (by rw [H5.out.2.2.1]; decide) (by unfold maxLen; decide) (by simp) ?_; intro w1 ho1 hg1) | with_reducible (refine stop_load 51 ?_))
  have hb0 : Below w.heap.size w (w.alloc (Obj.cells (arr .u64 n) 51)) := (Below.refl _ _).alloc (Nat.le_refl _) _
  have HO1 : Hid (w1.ownsRow w.heap.size 5 1 (.slice (some ⟨w.heap.size + 1, 0, none⟩) 0 16) 0 (ints .u8 [])) := by
    have := ho1
    show World.ownsRow _ _ _ _ _ _ _
    simpa [ints] using this
  have HB1 : Hid (Below w.heap.size w w1) := below_grown' (v := .slice none 0 0) hb0 hg1 (own_none _ w.heap.size 5 1) (by simp) (Nat.le_refl _)
  have HW1 : Hid (WAt w1 w.heap.size n) := by
    have h0 : WAt (w.alloc (Obj.cells (arr .u64 n) 51)) w.heap.size n := heap_alloc_new w _
    exact (hg1.block _ h0.lt (by simp)).trans h0
  clear ho1 hg1 hb0
  refine Stop.go ?_
  with_reducible refine law_load_arr w.heap.size 0 .u64 n _ ?lx ?lc under38 rfl ?li ?lk
  case lx => exact rfl
  case lc => exact rangeAt_of_row HW1.out
  case li => rw [HNL.out]; exact info38
  clear HW1
  go_wp2_with fail
  go_loopw [3, 4, 5, 10] (fun sl hv bv i wr => ∃ (k L h b : Nat) (out : List Nat), k ≤ 5 ∧ i = .int .i64 k ∧ hv = .int .u64 h ∧ bv = .int .i64 b ∧ b < 8 ∧ Hid (Told n k out L h b) ∧ Hid (wr.ownsRow w.heap.size 5 1 sl L (ints .u8 out)) ∧ Hid (Below w.heap.size w wr)) (fun _ _ _ i _ => 5 - (intOf i).toNat)
  case atStart => exact ⟨0, 0, 0, 0, [], by omega, rfl, rfl, rfl, by omega, ⟨rfl, fun x hx => by simp at hx, rfl, by decide, by simp [Po.pos]⟩, HO1.out, HB1.out⟩
  case round =>
    clear HO1 HB1
    obtain ⟨k, L, h, b, out, hk, rfl, rfl, rfl, hb, HT, HO, HB⟩ := hrel
    obtain ⟨q, cq, rfl⟩ := own_slice HO.out
    by_cases hlt : k < 5
    · have hix := HI.out k hlt
      have xk : Sp.nth n k < 67108864 := Sp.nth_lt (by decide) HN.out k
      have hor := or_put HT.out.held hb xk
      have HT2 : Hid (Told n (k + 1) out L (h + Sp.nth n k * 2 ^ b) (b + 26)) := HT.out.put (by rw [HNL.out]; exact hlt) HN.out
      have e1 : ((Sp.nth n k : Nat) : Int) * 2 ^ b = ((Sp.nth n k * 2 ^ b : Nat) : Int) := by simp
      have hv : Sp.nth n k * 2 ^ b < 18446744073709551616 := by
        have h1 : 2 ^ b ≤ 2 ^ 8 := Nat.pow_le_pow_right (by decide) (by omega)
        have h2 : Sp.nth n k * 2 ^ b ≤ 67108864 * 2 ^ 8 := Nat.mul_le_mul (by omega) h1
        omega
      generalize Sp.nth n k * 2 ^ b = v at *
      generalize Sp.nth n k = y at *
      have b0 : (0 : Int) ≤ (b : Int) := by omega
      have b1 : (b : Int) < 8 := by omega
      have k0 : (0 : Int) ≤ (k : Int) := by omega
      have k1 : (k : Int) < 5 := by omega
      clear HT
      go_wp2_with fail
      have e2 : (h : Int) + (v : Int) = ((h + v : Nat) : Int) := by omega
      have e3 : (b : Int) + 26 = ((b + 26 : Nat) : Int) := by omega
      rw [e2, e3]
      clear e2 e3 e1 hor hix
      go_loopw [3, 4, 5] (fun sl hv bv wr => ∃ (L h b : Nat) (out : List Nat), hv = .int .u64 h ∧ bv = .int .i64 b ∧ b ≤ 33 ∧ Hid (Told n (k + 1) out L h b) ∧ Hid (wr.ownsRow w.heap.size 5 1 sl L (ints .u8 out)) ∧ Hid (Below w.heap.size w wr)) (fun _ _ b _ => (intOf b).toNat)
      case atStart => exact ⟨L, h + v, b + 26, out, rfl, rfl, by omega, HT2.out, HO.out, HB.out⟩
      case round =>
        clear HT2 HO HB hb b0 b1 hv
        obtain ⟨L, h, b, out, rfl, rfl, hb, HT, HO, HB⟩ := hrel
        obtain ⟨q, cq, rfl⟩ := own_slice HO.out
        have hL : L ≤ 16 := by have := HT.out.bits; omega
        have hh : h < 8589934592 := Nat.lt_of_lt_of_le HT.out.held (pow_small hb)
        by_cases h8 : 8 ≤ b
        · have h8' : (8 : Int) ≤ (b : Int) := by omega
          have hb' : (b : Int) ≤ 33 := by omega
          have hbn := HB.out.size
          go_wp2_with (first | with_reducible (refine stop_builtin .append ?_))
          refine Stop.go ?_
          have e4 : (h : Int) % 256 = ((h % 256 : Nat) : Int) := by omega
          rw [e4]
          have HO2 : Hid ((wr.alloc (Obj.cells #[.int .u8 ((h % 256 : Nat) : Int)] 5)).ownsRow w.heap.size 5 1 (.slice q L cq) L (ints .u8 out)) := ownsRow_alloc HO.out _
          have HB2 : Hid (Below w.heap.size w (wr.alloc (Obj.cells #[.int .u8 ((h % 256 : Nat) : Int)] 5))) := HB.out.alloc hbn _
          refine law_append_bytes w.heap.size (.slice q L cq) L out wr.heap.size 1 1 [h % 256] rfl rfl rfl HO2.out (rangeAt_of_row (heap_alloc_new wr _)) (by omega) (by simp; omega) ?_
          intro v' w' hown' hg'
          have HO3 : Hid (w'.ownsRow w.heap.size 5 1 v' (L + 1) (ints .u8 (out ++ [h % 256]))) := hown'
          have HB3 : Hid (Below w.heap.size w w') := below_grown' HB2.out hg' HO2.out (by simp; omega) (Nat.le_refl _)
          have HT3 : Hid (Told n (k + 1) (out ++ [h % 256]) (L + 1) (h / 256) (b - 8)) := HT.out.tell h8
          clear hown' hg' HO HB HO2 HB2 HT e4
          go_wp2_with fail
          go_roundw
          case rel =>
            (repeat apply Exists.intro)
            refine ⟨⟨L + 1, h / 256, b - 8, out ++ [h % 256], ?_, ?_, by omega, HT3.out, HO3.out, HB3.out⟩, rfl⟩
            · go_num
            · go_num
          case measure => simp [intOf]; omega
        · have h8' : ¬ (8 : Int) ≤ (b : Int) := by omega
          go_wp2_with fail
          go_roundw
          case rel => exact ⟨k + 1, L, h, b, out, by omega, by go_num, rfl, rfl, by omega, HT.out, HO.out, HB.out⟩
          case measure => simp [intOf]; omega
    · obtain rfl : k = 5 := by omega
      obtain ⟨hL, ho⟩ := HT.out.done hb HNL.out
      subst hL
      have h1 := HO.out
      rw [ho, HR.out] at h1
      have HO1 : Hid (wr.ownsRow w.heap.size 5 1 (.slice q 16 cq) 16 (ints .u8 R)) := h1
      clear h1 ho HT HO HI HN HR
      go_wp2_with fail
      go_ret
      exact ⟨_, rfl, HO1.out, HB.out⟩
end Go.Proofs.Ytnceiccciaihoaa.P4
