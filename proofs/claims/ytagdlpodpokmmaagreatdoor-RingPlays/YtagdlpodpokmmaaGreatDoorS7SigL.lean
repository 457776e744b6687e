/- The document's eight, Sign and box: contracts. -/
import Derived.Test.YtagdlpodpokmmaaGreatDoorMgS
namespace Go.Proofs.YtagdlpodpokmmaaGreatDoor.S7
open Go.RowKit
theorem eight_set (K : Nat) (E : List Nat) (hE : E.length = 8) (i x : Nat) (hi : i < 8) (hx : Sp.nth E i = x) : (List.replicate (K + (i + 1)) 0 ++ E.drop (i + 1)).set (K + i) x = List.replicate (K + i) 0 ++ E.drop i := by
  have h1 : E.drop i = x :: E.drop (i + 1) := by
    rw [List.drop_eq_getElem_cons (by omega), ← hx]
    simp [Sp.nth, hE, hi]
  rw [h1, show K + (i + 1) = (K + i) + 1 from rfl, List.replicate_succ', List.append_assoc, List.set_append_right _ _ (by simp)]
  simp
theorem div_div256 (n k : Nat) : n / 256 ^ k / 256 = n / 256 ^ (k + 1) := by rw [Nat.div_div_eq_div_mul, Nat.pow_succ]
set_option maxHeartbeats 2000000 in
theorem eight_any (n K : Nat) (w : World) (hn : n ≤ 1099511627776) (hK : K ≤ 60000) :
    Calls Tryz.prog 62 #[.int .i64 (n : Int), .int .i64 ((K : Int) + 8)] w fun e w' => e = .returned (.slice (some ⟨w.heap.size, 0, none⟩) (K + 8) (K + 8)) ∧ w'.ownsRow w.heap.size 5 1 (.slice (some ⟨w.heap.size, 0, none⟩) (K + 8) (K + 8)) (K + 8) (ints .u8 (List.replicate K 0 ++ Su.be 8 n)) ∧ Below w.heap.size w w' := by
  have HEL : Hid ((Su.be 8 n).length = 8) := Su.be_length 8 n
  have HEN : Hid (∀ i, i < 8 → Sp.nth (Su.be 8 n) i = n / 256 ^ (7 - i) % 256) := fun i hi => be_nth 8 i n hi
  obtain ⟨E, HE⟩ : ∃ E, Hid (Su.be 8 n = E) := ⟨_, rfl⟩
  rw [HE.out] at HEL HEN ⊢
  have HLE : Hid (∀ k, n / 256 ^ k ≤ 1099511627776) := fun k => Nat.le_trans (Nat.div_le_self _ _) hn
  clear HE
  have K0 : (0 : Int) ≤ (K : Int) := by omega
  have K1 : (K : Int) ≤ 60000 := by omega
  go_enter Tryz.func62, Tryz.ntmps62
  go_wp2_with (first | with_reducible (refine stop_make 22 ?_))
  refine Stop.go ?_
  refine law_make w.heap.size (K + 8) (K + 8) ?h1 ?h2 (Nat.le_refl _) (by omega) (Nat.le_refl _) ?_
  case h1 => show Value.int .i64 _ = _; congr 1
  case h2 => show Value.int .i64 _ = _; congr 1
  intro w1 ho1 hg1
  have HO1 : Hid (w1.ownsRow w.heap.size 5 1 (.slice (some ⟨w.heap.size, 0, none⟩) (K + 8) (K + 8)) (K + 8) (ints .u8 (List.replicate (K + 8) 0))) := ho1
  have HB1 : Hid (Below w.heap.size w w1) := (Below.refl w.heap.size w).grown hg1 (Nat.le_refl _) (fun k hk => by cases hk)
  clear ho1 hg1
  go_wp2_with fail
  go_loopw [0, 6] (fun m i wr => ∃ k : Nat, k ≤ 8 ∧ i = .int .i64 ((K : Int) + 7 - (k : Int)) ∧ m = .int .i64 ((n / 256 ^ k : Nat) : Int) ∧ Hid (wr.ownsRow w.heap.size 5 1 (.slice (some ⟨w.heap.size, 0, none⟩) (K + 8) (K + 8)) (K + 8) (ints .u8 (List.replicate (K + (8 - k)) 0 ++ E.drop (8 - k)))) ∧ Hid (Below w.heap.size w wr)) (fun _ i _ => (intOf i + 1).toNat)
  case atStart =>
    have h0 : w1.ownsRow w.heap.size 5 1 (.slice (some ⟨w.heap.size, 0, none⟩) (K + 8) (K + 8)) (K + 8) (ints .u8 (List.replicate (K + (8 - 0)) 0 ++ E.drop (8 - 0))) := by
      rw [List.drop_eq_nil_of_le (by rw [HEL.out]; omega), List.append_nil]
      exact HO1.out
    first
      | exact ⟨0, by omega, by congr 1; omega, by simp, h0, HB1.out⟩
      | exact ⟨0, by omega, by simp; omega, by simp, h0, HB1.out⟩
  case round =>
    obtain ⟨k, hk, rfl, rfl, HO, HB⟩ := hrel
    by_cases hlt : k < 8
    · obtain ⟨i, HI⟩ : ∃ i : Nat, Hid (i + k = 7) := ⟨7 - k, by show _ = _; omega⟩
      obtain ⟨j, HJ⟩ : ∃ j : Nat, Hid (j = K + i) := ⟨_, rfl⟩
      have ei : (K : Int) + 7 - (k : Int) = (j : Int) := by have := HI.out; have := HJ.out; omega
      rw [ei]
      have hm := HLE.out k
      obtain ⟨x, HXX⟩ : ∃ x, Hid (n / 256 ^ k % 256 = x) := ⟨_, rfl⟩
      have HX : Hid (Sp.nth E i = x) := by
        have := HEN.out i (by have := HI.out; omega)
        rw [show 7 - i = k from by have := HI.out; omega, HXX.out] at this
        exact this
      have hxi : ((n / 256 ^ k : Nat) : Int) % 256 = (x : Int) := by rw [← HXX.out]; omega
      have HD : Hid (n / 256 ^ k / 256 = n / 256 ^ (k + 1)) := div_div256 n k
      have j5 : (j : Int) < (K : Int) + 8 := by have := HI.out; have := HJ.out; omega
      have j6 : (K : Int) ≤ (j : Int) := by have := HI.out; have := HJ.out; omega
      have j0 : (0 : Int) ≤ (j : Int) := by omega
      have j7 : j < K + 8 := by omega
      have hc := own_at HO.out j j7
      have hf := own_may HO.out j
      have HEI : Hid ((j : Int) - 1 = (K : Int) + 7 - ((k + 1 : Nat) : Int)) := by show _ = _; have := HI.out; have := HJ.out; omega
      have HO2 : Hid ((wr.setCell ⟨w.heap.size, j, none⟩ (.int .u8 (x : Int))).ownsRow w.heap.size 5 1 (.slice (some ⟨w.heap.size, 0, none⟩) (K + 8) (K + 8)) (K + 8) (ints .u8 (List.replicate (K + (8 - (k + 1))) 0 ++ E.drop (8 - (k + 1))))) := by
        have h1 := own_set (i := j) (y := x) HO.out
        rw [HJ.out] at h1 ⊢
        rw [show 8 - k = i + 1 from by have := HI.out; omega, eight_set K E HEL.out i _ (by have := HI.out; omega) HX.out] at h1
        rw [show 8 - (k + 1) = i from by have := HI.out; omega]
        exact h1
      have HB2 : Hid (Below w.heap.size w (wr.setCell ⟨w.heap.size, j, none⟩ (.int .u8 (x : Int)))) := HB.out.setCell (Nat.le_refl _) _
      generalize n / 256 ^ k = m at *
      have HD2 : Hid (((m : Int) / 256) = ((n / 256 ^ (k + 1) : Nat) : Int)) := by show _ = _; rw [← HD.out]; omega
      clear HO HB HX HD ei HXX
      have m0 : (0 : Int) ≤ (m : Int) := by omega
      have m1 : (m : Int) ≤ 1099511627776 := by omega
      go_wp2_with fail
      go_roundw
      case rel =>
        first
          | exact ⟨k + 1, by omega, by rw [← HEI.out], by rw [← HD2.out], HO2.out, HB2.out⟩
          | ((repeat apply Exists.intro)
             refine ⟨⟨k + 1, by omega, ?_, ?_, HO2.out, HB2.out⟩, rfl⟩
             · rw [← HEI.out]
             · rw [← HD2.out])
      case measure => simp [intOf]
    · obtain rfl : k = 8 := by omega
      have HO6 : Hid (wr.ownsRow w.heap.size 5 1 (.slice (some ⟨w.heap.size, 0, none⟩) (K + 8) (K + 8)) (K + 8) (ints .u8 (List.replicate K 0 ++ E))) := HO.out
      clear HO
      have e0 : (K : Int) + 7 - ((8 : Nat) : Int) = (K : Int) - 1 := by omega
      rw [e0]
      clear e0
      go_wp2_with fail
      go_ret
      exact ⟨rfl, HO6.out, HB.out⟩
theorem rsign_cells (s : Nat) (l : List Nat) : ((List.replicate 24 0 ++ l).set 0 83).set 1 s = 83 :: s :: (List.replicate 22 0 ++ l) := rfl
set_option maxHeartbeats 1000000 in
theorem rSign_any (s n : Nat) (w : World) (hs : s < 256) (hn : n ≤ 1099511627776) :
    Calls Tryz.prog 44 #[.int .i64 (s : Int), .int .i64 (n : Int)] w fun e w' => ∃ v, e = .returned v ∧ w'.ownsRow w.heap.size 5 1 v 32 (ints .u8 (Su.sign s n)) ∧ Below w.heap.size w w' := by
  have HK : Hid (Calls Tryz.prog 62 #[.int .i64 (n : Int), .int .i64 32] w fun e w' => e = .returned (.slice (some ⟨w.heap.size, 0, none⟩) 32 32) ∧ w'.ownsRow w.heap.size 5 1 (.slice (some ⟨w.heap.size, 0, none⟩) 32 32) 32 (ints .u8 (List.replicate 24 0 ++ Su.be 8 n)) ∧ Below w.heap.size w w') := eight_any n 24 w hn (by decide)
  have s0 : (0 : Int) ≤ (s : Int) := by omega
  have s1 : (s : Int) < 256 := by omega
  have s2 : (s : Int) % 256 = (s : Int) := by omega
  clear hn
  go_enter Tryz.func44, Tryz.ntmps44
  go_wp2_with fail
  refine HK.out.mono ?_
  rintro e w1 ⟨rfl, ho1, hb1⟩
  have c0 := own_at ho1 0 (by decide)
  have c1 := own_at ho1 1 (by decide)
  have f0 := own_may ho1 0
  have f1 := own_may ho1 1
  have HO1 : Hid (w1.ownsRow w.heap.size 5 1 (.slice (some ⟨w.heap.size, 0, none⟩) 32 32) 32 (ints .u8 (List.replicate 24 0 ++ Su.be 8 n))) := ho1
  have HB1 : Hid (Below w.heap.size w w1) := hb1
  clear ho1 hb1 HK
  go_wp2_with fail
  have HO2 : Hid (((w1.setCell ⟨w.heap.size, 0, none⟩ (.int .u8 83)).setCell ⟨w.heap.size, 1, none⟩ (.int .u8 (s : Int))).ownsRow w.heap.size 5 1 (.slice (some ⟨w.heap.size, 0, none⟩) 32 32) 32 (ints .u8 (Su.sign s n))) := by
    have h1 := own_set (i := 1) (y := s) (own_set (i := 0) (y := 83) HO1.out)
    rw [rsign_cells] at h1
    exact h1
  have HB2 : Hid (Below w.heap.size w ((w1.setCell ⟨w.heap.size, 0, none⟩ (.int .u8 83)).setCell ⟨w.heap.size, 1, none⟩ (.int .u8 (s : Int)))) :=
    (HB1.out.setCell (Nat.le_refl _) _).setCell (Nat.le_refl _) _
  go_ret
  exact ⟨_, rfl, HO2.out, HB2.out⟩
theorem rbox_cells (k : Nat) (l : List Nat) : (List.replicate (k + 8) 0 ++ l).set 0 66 = 66 :: (List.replicate (k + 7) 0 ++ l) := by
  rw [show k + 8 = (k + 7) + 1 from rfl, List.replicate_succ]
  rfl
set_option maxHeartbeats 1000000 in
theorem rbox_any (n k : Nat) (w : World) (hk : k ≤ 50000) (hn : n ≤ 1099511627776) :
    Calls Tryz.prog 50 #[.int .i64 (n : Int), .int .i64 (k : Int)] w fun e w' => ∃ v, e = .returned v ∧ w'.ownsRow w.heap.size 5 1 v (k + 16) (ints .u8 (Su.box n k)) ∧ Below w.heap.size w w' := by
  have HK : Hid (Calls Tryz.prog 62 #[.int .i64 (n : Int), .int .i64 ((k : Int) + 16)] w fun e w' => e = .returned (.slice (some ⟨w.heap.size, 0, none⟩) (k + 16) (k + 16)) ∧ w'.ownsRow w.heap.size 5 1 (.slice (some ⟨w.heap.size, 0, none⟩) (k + 16) (k + 16)) (k + 16) (ints .u8 (List.replicate (k + 8) 0 ++ Su.be 8 n)) ∧ Below w.heap.size w w') := by
    have h := eight_any n (k + 8) w hn (by omega)
    have e : ((k + 8 : Nat) : Int) + 8 = (k : Int) + 16 := by omega
    rw [e] at h
    exact h
  have k0 : (0 : Int) ≤ (k : Int) := by omega
  have k1 : (k : Int) ≤ 50000 := by omega
  clear hn
  go_enter Tryz.func50, Tryz.ntmps50
  go_wp2_with fail
  refine HK.out.mono ?_
  rintro e w1 ⟨rfl, ho1, hb1⟩
  have c0 := own_at ho1 0 (by omega)
  have f0 := own_may ho1 0
  have HO1 : Hid (w1.ownsRow w.heap.size 5 1 (.slice (some ⟨w.heap.size, 0, none⟩) (k + 16) (k + 16)) (k + 16) (ints .u8 (List.replicate (k + 8) 0 ++ Su.be 8 n))) := ho1
  have HB1 : Hid (Below w.heap.size w w1) := hb1
  clear ho1 hb1 HK
  go_wp2_with fail
  have HO2 : Hid ((w1.setCell ⟨w.heap.size, 0, none⟩ (.int .u8 66)).ownsRow w.heap.size 5 1 (.slice (some ⟨w.heap.size, 0, none⟩) (k + 16) (k + 16)) (k + 16) (ints .u8 (Su.box n k))) := by
    have h1 := own_set (i := 0) (y := 66) HO1.out
    rw [rbox_cells] at h1
    exact h1
  have HB2 : Hid (Below w.heap.size w (w1.setCell ⟨w.heap.size, 0, none⟩ (.int .u8 66))) := HB1.out.setCell (Nat.le_refl _) _
  go_ret
  exact ⟨_, rfl, HO2.out, HB2.out⟩
end Go.Proofs.YtagdlpodpokmmaaGreatDoor.S7
