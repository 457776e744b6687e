/- The document's answer: fill and eight. -/
import Derived.Test.YtnceiccciaihoaaA5Fill
namespace Go.Proofs.Ytnceiccciaihoaa.A5
open Go.RowKit P4
theorem own_empty {w : World} {base : Nat} (hb : base ≤ w.heap.size) : (w.alloc (.cells #[] 5)).ownsRow base 5 1 (.slice (some ⟨w.heap.size, 0, none⟩) 0 0) 0 (ints .u8 []) := own_lit [] hb (by decide)
set_option maxHeartbeats 1000000 in
theorem rfill_any (l : List Nat) (v : Value) (w : World) (hv : Src w v l) (hn : l.length ≤ 40000) :
    Calls Try.prog 35 #[v] w fun e w' => ∃ v', e = .returned v' ∧ w'.ownsRow w.heap.size 5 1 v' (l.length + Ae.lack l.length) (ints .u8 (Ae.fill l)) ∧ Below w.heap.size w w' := by
  have HV : Hid (Src w v l) := hv
  obtain ⟨p, c, rfl⟩ := hv.slice
  have HF : Hid (Ae.fill l = l ++ List.replicate (Ae.lack l.length) 0) := rfl
  obtain ⟨F, hF⟩ : ∃ F, Ae.fill l = F := ⟨_, rfl⟩
  rw [hF] at HF ⊢
  obtain ⟨n, hnl⟩ : ∃ n, l.length = n := ⟨_, rfl⟩
  have HNL : Hid (l.length = n) := hnl
  rw [hnl] at HV hn HF ⊢
  have HLK : Hid (Ae.lack n < 16) := Ae.lack_le n
  clear hv hF hnl
  go_enter Try.func35, Try.ntmps35
  go_wp2_with (first | with_reducible (refine stop_builtin .append ?_))
  refine Stop.go ?_
  refine law_append_src w.heap.size (.slice (some ⟨w.heap.size, 0, none⟩) 0 0) 0 [] (.slice p n c) l rfl rfl (own_empty (Nat.le_refl _)) (HV.out.below ((Below.refl _ _).alloc (Nat.le_refl _) _)) (by rw [HNL.out]; omega) (by simp) ?_
  intro v1 w1 hown1 hb1
  rw [HNL.out, List.nil_append, Nat.zero_add] at hown1
  have HO0 : Hid (w1.ownsRow w.heap.size 5 1 v1 n (ints .u8 l)) := hown1
  have HB0 : Hid (Below w.heap.size w w1) := ((Below.refl _ _).alloc (Nat.le_refl _) _).trans hb1
  clear hown1 hb1
  go_wp2_with fail
  go_loopw [3] (fun sl wr => ∃ k : Nat, k ≤ Ae.lack n ∧ Hid (wr.ownsRow w.heap.size 5 1 sl (n + k) (ints .u8 (l ++ List.replicate k 0))) ∧ Hid (Below w.heap.size w wr)) (fun sl _ => match sl with | .slice _ m _ => n + Ae.lack n - m | _ => 0)
  case atStart =>
    have h0 : w1.ownsRow w.heap.size 5 1 v1 (n + 0) (ints .u8 (l ++ List.replicate 0 0)) := by simpa using HO0.out
    exact ⟨0, Nat.zero_le _, h0, HB0.out⟩
  case round =>
    obtain ⟨k, hk, HO, HW⟩ := hrel
    obtain ⟨q, cq, rfl⟩ := own_slice HO.out
    have HB2 : Hid (w.heap.size ≤ wr.heap.size) := HW.out.size
    by_cases h16 : (n + k) % 16 = 0
    · have HKE : Hid (k = Ae.lack n) := lack_done h16 hk
      have g1 : ((n + k : Nat) : Int) % 16 = 0 := by omega
      have g2 : ¬ (0 : Int) < ((n + k : Nat) : Int) % 16 := by omega
      go_wp2_with fail
      go_ret
      obtain rfl := HKE.out
      exact ⟨_, rfl, by rw [HF.out]; exact HO.out, HW.out⟩
    · have g1 : (0 : Int) < ((n + k : Nat) : Int) % 16 := by omega
      have HK1 : Hid (k + 1 ≤ Ae.lack n) := lack_step h16 hk
      have HKL := HLK.out
      go_wp2_with (first | with_reducible (refine stop_builtin .append ?_))
      refine Stop.go ?_
      have HO2 : Hid ((wr.alloc (Obj.cells #[.int .u8 ((0 : Nat) : Int)] 5)).ownsRow w.heap.size 5 1 (.slice q (n + k) cq) (n + k) (ints .u8 (l ++ List.replicate k 0))) := ownsRow_alloc HO.out _
      have HW2 : Hid (Below w.heap.size w (wr.alloc (Obj.cells #[.int .u8 ((0 : Nat) : Int)] 5))) := HW.out.alloc HB2.out _
      refine law_append_src w.heap.size _ (n + k) (l ++ List.replicate k 0) (.slice (some ⟨wr.heap.size, 0, none⟩) 1 1) [0] rfl rfl HO2.out (one_src wr 0 (by decide)) (by simp; omega) (by have := HB2.out; simp; omega) ?_
      intro v' w' hown' hb'
      have HO3 : Hid (w'.ownsRow w.heap.size 5 1 v' (n + (k + 1)) (ints .u8 (l ++ List.replicate (k + 1) 0))) := by
        rw [rep_snoc]
        exact hown'
      have HW3 : Hid (Below w.heap.size w w') := HW2.out.trans hb'
      obtain ⟨q', c', rfl⟩ := own_slice hown'
      clear hown' hb' HO HW HO2 HW2
      go_wp2_with fail
      go_roundw
      case rel => exact ⟨k + 1, HK1.out, HO3.out, HW3.out⟩
      case measure => have := HK1.out; simp; omega
set_option maxHeartbeats 1000000 in
theorem reight_any (m : Nat) (w : World) (hm : m < 4611686018427387904) :
    Calls Try.prog 36 #[.int .i64 (m : Int)] w fun e w' => ∃ v', e = .returned v' ∧ w'.ownsRow w.heap.size 5 1 v' 8 (ints .u8 (Ae.eight m)) ∧ Below w.heap.size w w' := by
  have HEL : Hid ((Ae.eight m).length = 8) := Ae.eight_length m
  have HEN : Hid (∀ i, i < 8 → Sp.nth (Ae.eight m) i = m / 256 ^ i % 256) := fun i hi => digs_nth 256 8 i m hi
  have HMD : Hid (∀ i, m / 256 ^ i ≤ m) := fun i => Nat.div_le_self _ _
  have HM0 : Hid (m = m / 256 ^ 0) := by show _ = _; simp
  obtain ⟨E, hE⟩ : ∃ E, Ae.eight m = E := ⟨_, rfl⟩
  rw [hE] at HEL HEN ⊢
  clear hE
  go_enter Try.func36, Try.ntmps36
  go_wp2_with fail
  go_loopw [0, 3, 4] (fun z sl u wr => ∃ i r : Nat, i ≤ 8 ∧ Hid (r = m / 256 ^ i) ∧ z = .int .i64 r ∧ u = .int .i64 i ∧ Hid (wr.ownsRow w.heap.size 5 1 sl i (ints .u8 (E.take i))) ∧ Hid (Below w.heap.size w wr)) (fun _ _ u _ => 8 - (intOf u).toNat)
  case atStart => exact ⟨0, m, by omega, HM0.out, rfl, rfl, own_none _ _ _ _, Below.refl _ _⟩
  case round =>
    obtain ⟨i, r, hi, HRI, rfl, rfl, HO, HW⟩ := hrel
    obtain ⟨q, cq, rfl⟩ := own_slice HO.out
    have HB2 : Hid (w.heap.size ≤ wr.heap.size) := HW.out.size
    by_cases hlt : i < 8
    · have HTS : Hid (E.take (i + 1) = E.take i ++ [Sp.nth E i]) := Po.take_succ_nth (by rw [HEL.out]; exact hlt)
      have HXV : Hid (Sp.nth E i = r % 256) := by show _ = _; rw [HEN.out i hlt, HRI.out]
      have HRS : Hid (r / 256 = m / 256 ^ (i + 1)) := by show _ = _; rw [HRI.out, Nat.pow_succ, ← Nat.div_div_eq_div_mul]
      have g1 : (i : Int) < 8 := by omega
      have i0 : (0 : Int) ≤ (i : Int) := by omega
      have r0 : (0 : Int) ≤ (r : Int) := by omega
      have r1 : (r : Int) < 4611686018427387904 := by have := HMD.out i; rw [← HRI.out] at this; omega
      go_wp2_with (first | with_reducible (refine stop_builtin .append ?_))
      refine Stop.go ?_
      have hxe : (r : Int) % 256 = ((Sp.nth E i : Nat) : Int) := by have := HXV.out; omega
      have HEI : Sp.nth E i < 256 := by rw [HXV.out]; exact Nat.mod_lt _ (by decide)
      rw [hxe]
      clear hxe
      generalize Sp.nth E i = x at *
      have HO2 : Hid ((wr.alloc (Obj.cells #[.int .u8 (x : Int)] 5)).ownsRow w.heap.size 5 1 (.slice q i cq) i (ints .u8 (E.take i))) := ownsRow_alloc HO.out _
      have HW2 : Hid (Below w.heap.size w (wr.alloc (Obj.cells #[.int .u8 (x : Int)] 5))) := HW.out.alloc HB2.out _
      refine law_append_src w.heap.size _ i (E.take i) (.slice (some ⟨wr.heap.size, 0, none⟩) 1 1) [x] rfl rfl HO2.out (one_src wr x HEI) (by simp; omega) (by have := HB2.out; simp; omega) ?_
      intro v' w' hown' hb'
      have HO3 : Hid (w'.ownsRow w.heap.size 5 1 v' (i + 1) (ints .u8 (E.take (i + 1)))) := by
        rw [HTS.out]
        exact hown'
      have HW3 : Hid (Below w.heap.size w w') := HW2.out.trans hb'
      have HRC : Hid (((r / 256 : Nat) : Int) = (r : Int) / 256) := by show _ = _; omega
      clear hown' hb' HO HW HO2 HW2 HTS HXV
      go_wp2_with fail
      go_roundw
      case rel =>
        first
          | exact ⟨i + 1, r / 256, by omega, HRS.out, by rw [HRC.out], by go_num, HO3.out, HW3.out⟩
          | ((repeat apply Exists.intro)
             refine ⟨⟨i + 1, r / 256, by omega, HRS.out, by rw [HRC.out], ?_, HO3.out, HW3.out⟩, rfl⟩
             go_num)
      case measure => simp [intOf]; omega
    · obtain rfl : i = 8 := by omega
      have h1 := HO.out
      rw [List.take_of_length_le (by rw [HEL.out]; exact Nat.le_refl _)] at h1
      have HO1 : Hid (wr.ownsRow w.heap.size 5 1 (.slice q 8 cq) 8 (ints .u8 E)) := h1
      clear h1 HO
      go_wp2_with fail
      go_ret
      exact ⟨_, rfl, HO1.out, HW.out⟩
end Go.Proofs.Ytnceiccciaihoaa.A5
