/- The contract of the document's Pad. -/
import Derived.Test.YtfjdaafckiefdaaGreatDoorMgV
import Derived.Test.YtfjdaafckiefdaaGreatDoorB13Pd
namespace Go.Proofs.YtfjdaafckiefdaaGreatDoor.C8
open Go.RowKit
def lenOf : Value → Nat
  | .slice _ n _ => n
  | _ => 0
theorem own_keep {w w' : World} {base e size n : Nat} {v : Value} {xs : List Value} (h : w.ownsRow base e size v n xs) (hb : Below w.heap.size w w') : w'.ownsRow base e size v n xs :=
  own_only (bs := []) h (Only.of_below hb []) (fun _ _ h => by cases h)
theorem bel_leB {w w' w0 : World} {B : Nat} (h : Below w.heap.size w w') (h0 : Below B w0 w) (hB : B ≤ w.heap.size) : Below B w0 w' := h0.trans (h.mono hB)
set_option maxHeartbeats 1000000 in
theorem RPad_any {l : List Nat} (a : Option Addr) (n c : Nat) (w : World) (hs : Src w (.slice a n c) l) (hl : l.length = n) (hn : n ≤ 2046) :
    Calls Tryz.prog 39 #[.slice a n c] w fun e w' => ∃ u, e = .returned u ∧ w'.ownsRow w.heap.size 5 1 u (bsz n) (ints .u8 (padL l)) ∧ Below w.heap.size w w' := by
  have hsz := bsz_le hn
  have HP : Hid (padL l = n / 256 :: n % 256 :: (l ++ List.replicate (bsz n - 2 - n) 0)) := by
    show padL l = _
    rw [padL, hl]
  have HC : Hid (∀ (n' : Int) (W : World), n' = (n : Int) → Calls Tryz.prog 35 #[.int .i64 n'] W fun e w' => e = .returned (.int .i64 (bsz n : Nat)) ∧ Below W.heap.size W w') := fun n' W e => by
    have := RSize_any (n : Int) W (by omega)
    rw [rsz_nat] at this
    exact e ▸ this
  generalize bsz n = s at *
  have HS : Hid (Src w (.slice a n c) l) := hs
  have HL : Hid (l.length = n) := hl
  have HN : Hid (n + 2 ≤ s ∧ s ≤ 2048 ∧ n ≤ 2046) := ⟨hsz.1, hsz.2.1, hn⟩
  have s1 : (s : Int) ≤ 2048 := by omega
  have s2 : (n : Int) + 2 ≤ (s : Int) := by omega
  have n0 : (0 : Int) ≤ (n : Int) := by omega
  have n1 : (n : Int) ≤ 2046 := by omega
  clear hs hl hsz hn
  go_enter Tryz.func39, Tryz.ntmps39
  go_wp2_with (first | with_reducible (refine stop_builtin .append ?_))
  refine Stop.go ?_
  have e0 : (n : Int) / 256 = ((n / 256 : Nat) : Int) := by omega
  have e1 : (n : Int) % 256 = ((n % 256 : Nat) : Int) := by omega
  simp only [e0, e1]
  have ho : (w.alloc (.cells #[.int .u8 ((n / 256 : Nat) : Int), .int .u8 ((n % 256 : Nat) : Int)] 5)).ownsRow w.heap.size 5 1 (.slice (some ⟨w.heap.size, 0, none⟩) 2 2) 2 (ints .u8 [n / 256, n % 256]) := whole_own (heap_alloc_new w _) rfl (by decide) (Nat.le_refl _)
  have hb0 : Below w.heap.size w (w.alloc (.cells #[.int .u8 ((n / 256 : Nat) : Int), .int .u8 ((n % 256 : Nat) : Int)] 5)) := (Below.refl _ _).alloc (Nat.le_refl _) _
  refine law_append_grow w.heap.size _ 2 [n / 256, n % 256] (.slice a n c) l rfl rfl ho (HS.out.below hb0) (by rw [HL.out]; have := HN.out; omega) (by simp) ?_
  intro v1 w1 h1 g1
  have HO1 : Hid (w1.ownsRow w.heap.size 5 1 v1 (2 + n) (ints .u8 ([n / 256, n % 256] ++ l))) := by
    rw [HL.out] at h1
    exact h1
  have HB1 : Hid (Below w.heap.size w w1) := hb0.trans (g1.below ho (by simp))
  clear h1 g1 ho hb0 e0 e1
  obtain ⟨q1, c1, rfl⟩ := own_slice HO1.out
  go_wp2_with fail
  go_loopw [3] (fun x wr => ∃ (j : Nat) (q : Option Addr) (cc : Nat), 2 + n + j ≤ s ∧ x = .slice q (2 + n + j) cc ∧ Hid (wr.ownsRow w.heap.size 5 1 (.slice q (2 + n + j) cc) (2 + n + j) (ints .u8 ([n / 256, n % 256] ++ l ++ List.replicate j 0))) ∧ Hid (Below w.heap.size w wr)) (fun x _ => s - lenOf x)
  case atStart =>
    refine ⟨0, q1, c1, by have := HN.out; omega, rfl, ?_, HB1.out⟩
    have := HO1.out
    rw [List.replicate_zero, List.append_nil]
    exact this
  case round =>
    obtain ⟨j, q, cc, hj, rfl, HO, HB⟩ := hrel
    obtain ⟨k, HKK⟩ : ∃ k, Hid (2 + n + j = k) := ⟨_, rfl⟩
    rw [HKK.out] at HO hj ⊢
    have k1 : (k : Int) ≤ (s : Int) := by omega
    by_cases hlt : k < s
    · have k2 : (k : Int) < (s : Int) := by omega
      go_wp2_with (first | (go_at_call 35; refine (HC.out _ _ rfl).mono ?_; rintro e w3 ⟨rfl, hb3⟩; have HB3 : Hid (Below wr.heap.size wr w3) := hb3; clear hb3) | with_reducible (refine stop_builtin .append ?_))
      refine Stop.go ?_
      have ho3 : w3.ownsRow w.heap.size 5 1 (.slice q k cc) k (ints .u8 ([n / 256, n % 256] ++ l ++ List.replicate j 0)) := own_keep HO.out HB3.out
      have ho4 := own_keep ho3 ((Below.refl w3.heap.size w3).alloc (Nat.le_refl _) (.cells #[.int .u8 ((0 : Nat) : Int)] 5))
      have hbl : w.heap.size ≤ w3.heap.size := Nat.le_trans HB.out.size HB3.out.size
      refine law_append_grow w.heap.size _ k _ _ [0] rfl rfl ho4 (one_src w3 0 (by decide)) (by have := HN.out; simp; omega) (by simp; omega) ?_
      intro v5 w5 h5 g5
      have HO5 : Hid (w5.ownsRow w.heap.size 5 1 v5 (2 + n + (j + 1)) (ints .u8 ([n / 256, n % 256] ++ l ++ List.replicate (j + 1) 0))) := by
        have h := h5
        rw [← HKK.out, List.append_assoc, show List.replicate j 0 ++ [0] = List.replicate (j + 1) 0 from List.replicate_succ'.symm] at h
        exact h
      have HB5 : Hid (Below w.heap.size w w5) := by
        have b3 : Below w.heap.size w w3 := bel_leB HB3.out HB.out HB.out.size
        exact (b3.alloc hbl _).trans (g5.below ho4 (by simp; omega))
      clear h5 g5 ho4 ho3
      obtain ⟨q5, c5, rfl⟩ := own_slice HO5.out
      go_wp2_with fail
      go_roundw
      case rel => exact ⟨j + 1, q5, c5, by have := HKK.out; omega, rfl, HO5.out, HB5.out⟩
      case measure => simp [lenOf]; have := HKK.out; omega
    · obtain rfl : k = s := by omega
      have k2 : ¬ (k : Int) < (k : Int) := by omega
      go_wp2_with (first | (go_at_call 35; refine (HC.out _ _ rfl).mono ?_; rintro e w3 ⟨rfl, hb3⟩; have HB3 : Hid (Below wr.heap.size wr w3) := hb3; clear hb3))
      go_ret
      refine ⟨_, rfl, ?_, bel_leB HB3.out HB.out HB.out.size⟩
      have ho3 := own_keep HO.out HB3.out
      have e : k - 2 - n = j := by have := HKK.out; omega
      rw [HP.out, e]
      exact ho3
end Go.Proofs.YtfjdaafckiefdaaGreatDoor.C8
