/- The document's answer: numbers in bytes as ints; add. -/
import Derived.Test.YtnceiccciaihoaaP4Zeros
namespace Go.Proofs.Ytnceiccciaihoaa.P4
open Go.RowKit
/-- A slice of ints that reads as these numbers. -/
def NumIs (w : World) (v : Value) (l : List Nat) : Prop := ∃ p c, v = .slice p l.length c ∧ l.length ≤ c ∧ (l ≠ [] → ∃ b o, p = some ⟨b, o, none⟩ ∧ w.rangeAt b o (ints .i64 l))
theorem NumIs.below {w w' : World} {v : Value} {l : List Nat} (h : NumIs w v l) (hb : Below w.heap.size w w') : NumIs w' v l := by
  obtain ⟨p, c, rfl, hc, h1⟩ := h
  exact ⟨p, c, rfl, hc, fun h0 => by obtain ⟨b, o, rfl, hr⟩ := h1 h0; exact ⟨b, o, rfl, rangeAt_below hb hr⟩⟩
theorem own_num {w : World} {base n : Nat} {v : Value} {l : List Nat} (h : w.ownsRow base 3 1 v n (ints .i64 l)) : NumIs w v l := by
  have hl : l.length = n := by have := h.1; rw [ints_length] at this; omega
  by_cases h0 : 0 < n
  · obtain ⟨g, c, rfl, _, _, hc, hr⟩ := own_cell h h0
    exact ⟨_, c, by rw [hl], by omega, fun _ => ⟨g, 0, rfl, hr⟩⟩
  · obtain ⟨q, c, rfl⟩ := own_slice h
    obtain rfl : n = 0 := by omega
    obtain rfl : l = [] := List.eq_nil_of_length_eq_zero hl
    exact ⟨q, c, rfl, by simp, fun h => absurd rfl h⟩
theorem num_cell {w w' : World} {p : Option Addr} {n c : Nat} {l : List Nat} (h : NumIs w (.slice p n c) l) (hb : Below w.heap.size w w') (i : Nat) (hi : i < n) : n = l.length ∧ ∃ b o, p = some ⟨b, o, none⟩ ∧ w'.cell? ⟨b, o + i, none⟩ = some (.int .i64 (Sp.nth l i : Nat)) := by
  obtain ⟨p', c', e, hc, h1⟩ := h
  cases e
  refine ⟨rfl, ?_⟩
  obtain ⟨b, o, rfl, hr⟩ := h1 (by intro e; rw [e] at hi; simp at hi)
  exact ⟨b, o, rfl, range_cell (rangeAt_below hb hr) i hi⟩
theorem add_step {a b out : List Nat} {i c : Nat} (hl : out.length = i) (h : Po.pos 256 out + 256 ^ i * c = Po.pos 256 (a.take i) + Po.pos 256 (b.take i)) :
    Po.pos 256 (out ++ [(c + Sp.nth a i + Sp.nth b i) % 256]) + 256 ^ (i + 1) * ((c + Sp.nth a i + Sp.nth b i) / 256) = Po.pos 256 (a.take (i + 1)) + Po.pos 256 (b.take (i + 1)) := by
  rw [pos_take', pos_take', Po.pos_snoc, hl, Nat.pow_succ, Nat.mul_assoc]
  have e := Nat.mod_add_div (c + Sp.nth a i + Sp.nth b i) 256
  have e2 : 256 ^ i * ((c + Sp.nth a i + Sp.nth b i) % 256) + 256 ^ i * (256 * ((c + Sp.nth a i + Sp.nth b i) / 256)) = 256 ^ i * c + 256 ^ i * Sp.nth a i + 256 ^ i * Sp.nth b i := by
    rw [← Nat.mul_add, e, Nat.mul_add, Nat.mul_add]
  omega
structure Added (a b out : List Nat) : Prop where
  small : ∀ x ∈ out, x < 256
  val : Po.pos 256 out = Po.pos 256 a + Po.pos 256 b
  low : max a.length b.length ≤ out.length
  up : out.length ≤ max a.length b.length + 1
set_option maxHeartbeats 1000000 in
theorem add_any (a b : List Nat) (va vb : Value) (w : World) (hva : NumIs w va a) (hvb : NumIs w vb b) (ha : ∀ x ∈ a, x < 256) (hb : ∀ x ∈ b, x < 256) (hal : a.length ≤ 1000) (hbl : b.length ≤ 1000) :
    Calls Try.prog 48 #[va, vb] w fun e w' => ∃ v out, e = .returned v ∧ Added a b out ∧ w'.ownsRow w.heap.size 3 1 v out.length (ints .i64 out) ∧ Below w.heap.size w w' := by
  obtain ⟨pa, ca, rfl, hca, hra⟩ := hva
  obtain ⟨pb, cb, rfl, hcb, hrb⟩ := hvb
  have HRA : Hid (a ≠ [] → ∃ b o, pa = some ⟨b, o, none⟩ ∧ w.rangeAt b o (ints .i64 a)) := hra
  have HRB : Hid (b ≠ [] → ∃ b' o, pb = some ⟨b', o, none⟩ ∧ w.rangeAt b' o (ints .i64 b)) := hrb
  have HA : Hid (∀ x ∈ a, x < 256) := ha
  have HB : Hid (∀ x ∈ b, x < 256) := hb
  obtain ⟨la, hla⟩ : ∃ la, a.length = la := ⟨_, rfl⟩
  obtain ⟨lb, hlb⟩ : ∃ lb, b.length = lb := ⟨_, rfl⟩
  have HLA : Hid (a.length = la) := hla
  have HLB : Hid (b.length = lb) := hlb
  rw [hla] at hal hca ⊢
  rw [hlb] at hbl hcb ⊢
  clear hra hrb ha hb hla hlb
  obtain ⟨M, hM⟩ : ∃ M, max la lb = M := ⟨_, rfl⟩
  have hM1 : la ≤ M := by omega
  have hM2 : lb ≤ M := by omega
  have hM3 : M ≤ 1000 := by omega
  have HMM : Hid (max la lb = M) := hM
  clear hM
  go_enter Try.func48, Try.ntmps48
  go_wp2_with fail
  go_loopw [5, 6, 7] (fun sl cv u wr => ∃ (i c : Nat) (out : List Nat), i ≤ M + 1 ∧ (i ≤ M ∨ c = 0) ∧ c ≤ 1 ∧ u = .int .i64 i ∧ cv = .int .i64 c ∧ Hid (wr.ownsRow w.heap.size 3 1 sl i (ints .i64 out)) ∧ Hid (Below w.heap.size w wr) ∧ Hid (out.length = i) ∧ Hid (∀ x ∈ out, x < 256) ∧ Hid (Po.pos 256 out + 256 ^ i * c = Po.pos 256 (a.take i) + Po.pos 256 (b.take i))) (fun _ _ u _ => M + 2 - (intOf u).toNat)
  case atStart => exact ⟨0, 0, [], by omega, .inl (by omega), by omega, rfl, rfl, own_none _ _ _ _, Below.refl _ _, rfl, fun x hx => by simp at hx, by show _ = _; simp [Po.pos]⟩
  case round =>
    obtain ⟨i, c, out, hi, hic, hc, rfl, rfl, HO, HW, HL, HS, HP⟩ := hrel
    obtain ⟨q, cq, rfl⟩ := own_slice HO.out
    have hbn := HW.out.size
    by_cases hdone : la ≤ i ∧ lb ≤ i ∧ c = 0
    · obtain ⟨d1, d2, rfl⟩ := hdone
      have h1 : ¬ (i : Int) < (la : Int) := by omega
      have h2 : ¬ (i : Int) < (lb : Int) := by omega
      have hp := HP.out
      rw [Nat.mul_zero, Nat.add_zero, List.take_of_length_le (by rw [HLA.out]; exact d1), List.take_of_length_le (by rw [HLB.out]; exact d2)] at hp
      have HAD : Hid (Added a b out) := ⟨HS.out, hp, by rw [HLA.out, HLB.out, HL.out]; have := HMM.out; omega, by rw [HLA.out, HLB.out, HL.out]; have := HMM.out; omega⟩
      clear hp HP HS
      go_wp2_with fail
      go_ret
      exact ⟨_, rfl, out, HAD.out, by rw [HL.out]; exact HO.out, HW.out⟩
    · have xa : Sp.nth a i < 256 := Sp.nth_lt (by decide) HA.out i
      have xb : Sp.nth b i < 256 := Sp.nth_lt (by decide) HB.out i
      have HST := add_step HL.out HP.out
      have HST' : Hid _ := HST
      clear HST
      have iM : i ≤ M := by omega
      by_cases hA : i < la
      · by_cases hB : i < lb
        · obtain ⟨ba, oa, rfl, hr1⟩ := HRA.out (by intro e; have := HLA.out; rw [e] at this; simp at this; omega)
          have c1 := range_cell (rangeAt_below HW.out hr1) i (by rw [HLA.out]; exact hA)
          have g1 : (i : Int) < (la : Int) := by omega
          clear hr1
          obtain ⟨bb, ob, rfl, hr2⟩ := HRB.out (by intro e; have := HLB.out; rw [e] at this; simp at this; omega)
          have c2 := range_cell (rangeAt_below HW.out hr2) i (by rw [HLB.out]; exact hB)
          have g2 : (i : Int) < (lb : Int) := by omega
          clear hr2
          obtain ⟨tot, htot⟩ : ∃ tot, c + Sp.nth a i + Sp.nth b i = tot := ⟨_, rfl⟩
          rw [htot] at HST'
          have htt : (c : Int) + ((Sp.nth a i : Nat) : Int) + ((Sp.nth b i : Nat) : Int) = (tot : Int) := by omega
          have htt1 : (c : Int) + ((Sp.nth a i : Nat) : Int) ≤ 1000 := by omega
          have ht5 : tot < 512 := by omega
          have m1 : (tot : Int).tmod 256 = ((tot % 256 : Nat) : Int) := by rw [Int.tmod_eq_emod_of_nonneg (by omega)]; omega
          have d1 : (tot : Int).tdiv 256 = ((tot / 256 : Nat) : Int) := by rw [Int.tdiv_eq_ediv_of_nonneg (by omega)]; omega
          clear htot
          have HSN : Hid (∀ x ∈ out ++ [tot % 256], x < 256) := fun x hx => by
            rcases List.mem_append.1 hx with h | h
            · exact HS.out x h
            · rw [List.mem_singleton.1 h]; exact Nat.mod_lt _ (by decide)
          have HLN : Hid ((out ++ [tot % 256]).length = i + 1) := by show _ = _; simp [HL.out]
          generalize Sp.nth a i = y1 at *
          generalize Sp.nth b i = y2 at *
          clear HS HP HL
          go_wp2_with (first | with_reducible (refine stop_builtin .append ?_))
          refine Stop.go ?_
          have HO2 : Hid ((wr.alloc (Obj.cells #[.int .i64 ((tot % 256 : Nat) : Int)] 3)).ownsRow w.heap.size 3 1 (.slice q i cq) i (ints .i64 out)) := ownsRow_alloc HO.out _
          have HW2 : Hid (Below w.heap.size w (wr.alloc (Obj.cells #[.int .i64 ((tot % 256 : Nat) : Int)] 3))) := HW.out.alloc hbn _
          refine law_append_ints w.heap.size (.slice q i cq) i out wr.heap.size 1 1 [tot % 256] rfl rfl rfl HO2.out (rangeAt_of_row (heap_alloc_new wr _)) (by omega) (by simp; omega) ?_
          intro v' w' hown' hg'
          have HO3 : Hid (w'.ownsRow w.heap.size 3 1 v' (i + 1) (ints .i64 (out ++ [tot % 256]))) := hown'
          have HW3 : Hid (Below w.heap.size w w') := below_grown' HW2.out hg' HO2.out (by simp; omega) (Nat.le_refl _)
          clear hown' hg' HO HW HO2 HW2
          go_wp2_with fail
          go_roundw
          case rel =>
            refine ⟨i + 1, tot / 256, out ++ [tot % 256], by omega, ?_, by omega, ?_, ?_, HO3.out, HW3.out, HLN.out, HSN.out, HST'.out⟩
            · omega
            · go_num
            · go_num
          case measure => simp [intOf]; omega
        · obtain ⟨ba, oa, rfl, hr1⟩ := HRA.out (by intro e; have := HLA.out; rw [e] at this; simp at this; omega)
          have c1 := range_cell (rangeAt_below HW.out hr1) i (by rw [HLA.out]; exact hA)
          have g1 : (i : Int) < (la : Int) := by omega
          clear hr1
          have g2 : ¬ (i : Int) < (lb : Int) := by omega
          have z2 : Sp.nth b i = 0 := nth_beyond (by rw [HLB.out]; omega)
          rw [z2] at HST'
          obtain ⟨tot, htot⟩ : ∃ tot, c + Sp.nth a i + 0 = tot := ⟨_, rfl⟩
          rw [htot] at HST'
          have htt : (c : Int) + ((Sp.nth a i : Nat) : Int) = (tot : Int) := by omega
          have ht5 : tot < 512 := by omega
          have m1 : (tot : Int).tmod 256 = ((tot % 256 : Nat) : Int) := by rw [Int.tmod_eq_emod_of_nonneg (by omega)]; omega
          have d1 : (tot : Int).tdiv 256 = ((tot / 256 : Nat) : Int) := by rw [Int.tdiv_eq_ediv_of_nonneg (by omega)]; omega
          clear htot
          have HSN : Hid (∀ x ∈ out ++ [tot % 256], x < 256) := fun x hx => by
            rcases List.mem_append.1 hx with h | h
            · exact HS.out x h
            · rw [List.mem_singleton.1 h]; exact Nat.mod_lt _ (by decide)
          have HLN : Hid ((out ++ [tot % 256]).length = i + 1) := by show _ = _; simp [HL.out]
          generalize Sp.nth a i = y1 at *
          clear HS HP HL
          go_wp2_with (first | with_reducible (refine stop_builtin .append ?_))
          refine Stop.go ?_
          have HO2 : Hid ((wr.alloc (Obj.cells #[.int .i64 ((tot % 256 : Nat) : Int)] 3)).ownsRow w.heap.size 3 1 (.slice q i cq) i (ints .i64 out)) := ownsRow_alloc HO.out _
          have HW2 : Hid (Below w.heap.size w (wr.alloc (Obj.cells #[.int .i64 ((tot % 256 : Nat) : Int)] 3))) := HW.out.alloc hbn _
          refine law_append_ints w.heap.size (.slice q i cq) i out wr.heap.size 1 1 [tot % 256] rfl rfl rfl HO2.out (rangeAt_of_row (heap_alloc_new wr _)) (by omega) (by simp; omega) ?_
          intro v' w' hown' hg'
          have HO3 : Hid (w'.ownsRow w.heap.size 3 1 v' (i + 1) (ints .i64 (out ++ [tot % 256]))) := hown'
          have HW3 : Hid (Below w.heap.size w w') := below_grown' HW2.out hg' HO2.out (by simp; omega) (Nat.le_refl _)
          clear hown' hg' HO HW HO2 HW2
          go_wp2_with fail
          go_roundw
          case rel =>
            refine ⟨i + 1, tot / 256, out ++ [tot % 256], by omega, ?_, by omega, ?_, ?_, HO3.out, HW3.out, HLN.out, HSN.out, HST'.out⟩
            · omega
            · go_num
            · go_num
          case measure => simp [intOf]; omega
      · by_cases hB : i < lb
        · have g1 : ¬ (i : Int) < (la : Int) := by omega
          have z1 : Sp.nth a i = 0 := nth_beyond (by rw [HLA.out]; omega)
          rw [z1] at HST'
          obtain ⟨bb, ob, rfl, hr2⟩ := HRB.out (by intro e; have := HLB.out; rw [e] at this; simp at this; omega)
          have c2 := range_cell (rangeAt_below HW.out hr2) i (by rw [HLB.out]; exact hB)
          have g2 : (i : Int) < (lb : Int) := by omega
          clear hr2
          obtain ⟨tot, htot⟩ : ∃ tot, c + 0 + Sp.nth b i = tot := ⟨_, rfl⟩
          rw [htot] at HST'
          have htt : (c : Int) + ((Sp.nth b i : Nat) : Int) = (tot : Int) := by omega
          have ht5 : tot < 512 := by omega
          have m1 : (tot : Int).tmod 256 = ((tot % 256 : Nat) : Int) := by rw [Int.tmod_eq_emod_of_nonneg (by omega)]; omega
          have d1 : (tot : Int).tdiv 256 = ((tot / 256 : Nat) : Int) := by rw [Int.tdiv_eq_ediv_of_nonneg (by omega)]; omega
          clear htot
          have HSN : Hid (∀ x ∈ out ++ [tot % 256], x < 256) := fun x hx => by
            rcases List.mem_append.1 hx with h | h
            · exact HS.out x h
            · rw [List.mem_singleton.1 h]; exact Nat.mod_lt _ (by decide)
          have HLN : Hid ((out ++ [tot % 256]).length = i + 1) := by show _ = _; simp [HL.out]
          generalize Sp.nth b i = y2 at *
          clear HS HP HL
          go_wp2_with (first | with_reducible (refine stop_builtin .append ?_))
          refine Stop.go ?_
          have HO2 : Hid ((wr.alloc (Obj.cells #[.int .i64 ((tot % 256 : Nat) : Int)] 3)).ownsRow w.heap.size 3 1 (.slice q i cq) i (ints .i64 out)) := ownsRow_alloc HO.out _
          have HW2 : Hid (Below w.heap.size w (wr.alloc (Obj.cells #[.int .i64 ((tot % 256 : Nat) : Int)] 3))) := HW.out.alloc hbn _
          refine law_append_ints w.heap.size (.slice q i cq) i out wr.heap.size 1 1 [tot % 256] rfl rfl rfl HO2.out (rangeAt_of_row (heap_alloc_new wr _)) (by omega) (by simp; omega) ?_
          intro v' w' hown' hg'
          have HO3 : Hid (w'.ownsRow w.heap.size 3 1 v' (i + 1) (ints .i64 (out ++ [tot % 256]))) := hown'
          have HW3 : Hid (Below w.heap.size w w') := below_grown' HW2.out hg' HO2.out (by simp; omega) (Nat.le_refl _)
          clear hown' hg' HO HW HO2 HW2
          go_wp2_with fail
          go_roundw
          case rel =>
            refine ⟨i + 1, tot / 256, out ++ [tot % 256], by omega, ?_, by omega, ?_, ?_, HO3.out, HW3.out, HLN.out, HSN.out, HST'.out⟩
            · omega
            · go_num
            · go_num
          case measure => simp [intOf]; omega
        · have g1 : ¬ (i : Int) < (la : Int) := by omega
          have z1 : Sp.nth a i = 0 := nth_beyond (by rw [HLA.out]; omega)
          rw [z1] at HST'
          have g2 : ¬ (i : Int) < (lb : Int) := by omega
          have z2 : Sp.nth b i = 0 := nth_beyond (by rw [HLB.out]; omega)
          rw [z2] at HST'
          have hc1 : c = 1 := by omega
          subst hc1
          obtain ⟨tot, htot⟩ : ∃ tot, 1 + 0 + 0 = tot := ⟨_, rfl⟩
          rw [htot] at HST'
          obtain rfl : tot = 1 := by omega
          clear htot
          have HSN : Hid (∀ x ∈ out ++ [1 % 256], x < 256) := fun x hx => by
            rcases List.mem_append.1 hx with h | h
            · exact HS.out x h
            · rw [List.mem_singleton.1 h]; exact Nat.mod_lt _ (by decide)
          have HLN : Hid ((out ++ [1 % 256]).length = i + 1) := by show _ = _; simp [HL.out]
          clear HS HP HL
          go_wp2_with (first | with_reducible (refine stop_builtin .append ?_))
          refine Stop.go ?_
          have HO2 : Hid ((wr.alloc (Obj.cells #[.int .i64 1] 3)).ownsRow w.heap.size 3 1 (.slice q i cq) i (ints .i64 out)) := ownsRow_alloc HO.out _
          have HW2 : Hid (Below w.heap.size w (wr.alloc (Obj.cells #[.int .i64 1] 3))) := HW.out.alloc hbn _
          refine law_append_ints w.heap.size (.slice q i cq) i out wr.heap.size 1 1 [1 % 256] rfl rfl rfl HO2.out (rangeAt_of_row (heap_alloc_new wr _)) (by omega) (by simp; omega) ?_
          intro v' w' hown' hg'
          have HO3 : Hid (w'.ownsRow w.heap.size 3 1 v' (i + 1) (ints .i64 (out ++ [1 % 256]))) := hown'
          have HW3 : Hid (Below w.heap.size w w') := below_grown' HW2.out hg' HO2.out (by simp; omega) (Nat.le_refl _)
          clear hown' hg' HO HW HO2 HW2
          go_wp2_with fail
          go_roundw
          case rel =>
            refine ⟨i + 1, 1 / 256, out ++ [1 % 256], by omega, ?_, by omega, ?_, ?_, HO3.out, HW3.out, HLN.out, HSN.out, HST'.out⟩
            · omega
            · go_num
            · go_num
          case measure => simp [intOf]; omega
end Go.Proofs.Ytnceiccciaihoaa.P4
