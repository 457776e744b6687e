/- The document's answer: numbers in bytes as ints; add. -/
import Derived.Test.YtbblokikhocdfaaDoorP4Own
namespace Go.Proofs.YtbblokikhocdfaaDoor.P4
open Go.RowKit
/-- A slice of ints that reads as these numbers. -/
def NumIs (w : World) (v : Value) (l : List Nat) : Prop := ∃ p c, v = .slice p l.length c ∧ l.length ≤ c ∧ (l ≠ [] → ∃ b o, p = some ⟨b, o, none⟩ ∧ w.rangeAt b o (ints .i64 l))
theorem NumIs.below {w w' : World} {v : Value} {l : List Nat} (h : NumIs w v l) (hb : Below w.heap.size w w') : NumIs w' v l := by
  obtain ⟨p, c, rfl, hc, h1⟩ := h
  exact ⟨p, c, rfl, hc, fun h0 => by obtain ⟨b, o, rfl, hr⟩ := h1 h0; exact ⟨b, o, rfl, rangeAt_below hb hr⟩⟩
theorem own_num {w : World} {base n : Nat} {v : Value} {l : List Nat} (h : w.ownsRow base 3 1 v n (ints .i64 l)) : NumIs w v l := by
  have hl : l.length = n := by have := h.1; rw [ints_length] at this; omega
  by_cases h0 : 0 < n
  · obtain ⟨g, c, rfl, _, _, hc, hr⟩ := own_cell h h0
    exact ⟨_, c, by rw [hl], by omega, fun _ => ⟨g, 0, rfl, hr⟩⟩
  · obtain ⟨q, c, rfl⟩ := own_slice h
    obtain rfl : n = 0 := by omega
    obtain rfl : l = [] := List.eq_nil_of_length_eq_zero hl
    exact ⟨q, c, rfl, by simp, fun h => absurd rfl h⟩
theorem num_cell {w w' : World} {p : Option Addr} {n c : Nat} {l : List Nat} (h : NumIs w (.slice p n c) l) (hb : Below w.heap.size w w') (i : Nat) (hi : i < n) : n = l.length ∧ ∃ b o, p = some ⟨b, o, none⟩ ∧ w'.cell? ⟨b, o + i, none⟩ = some (.int .i64 (Sp.nth l i : Nat)) := by
  obtain ⟨p', c', e, hc, h1⟩ := h
  cases e
  refine ⟨rfl, ?_⟩
  obtain ⟨b, o, rfl, hr⟩ := h1 (by intro e; rw [e] at hi; simp at hi)
  exact ⟨b, o, rfl, range_cell (rangeAt_below hb hr) i hi⟩
theorem add_step {a b out : List Nat} {i c : Nat} (hl : out.length = i) (h : Po.pos 256 out + 256 ^ i * c = Po.pos 256 (a.take i) + Po.pos 256 (b.take i)) :
    Po.pos 256 (out ++ [(c + Sp.nth a i + Sp.nth b i) % 256]) + 256 ^ (i + 1) * ((c + Sp.nth a i + Sp.nth b i) / 256) = Po.pos 256 (a.take (i + 1)) + Po.pos 256 (b.take (i + 1)) := by
  rw [pos_take', pos_take', Po.pos_snoc, hl, Nat.pow_succ, Nat.mul_assoc]
  have e := Nat.mod_add_div (c + Sp.nth a i + Sp.nth b i) 256
  have e2 : 256 ^ i * ((c + Sp.nth a i + Sp.nth b i) % 256) + 256 ^ i * (256 * ((c + Sp.nth a i + Sp.nth b i) / 256)) = 256 ^ i * c + 256 ^ i * Sp.nth a i + 256 ^ i * Sp.nth b i := by
    rw [← Nat.mul_add, e, Nat.mul_add, Nat.mul_add]
  omega
structure Added (a b out : List Nat) : Prop where
  small : ∀ x ∈ out, x < 256
  val : Po.pos 256 out = Po.pos 256 a + Po.pos 256 b
  low : max a.length b.length ≤ out.length
  up : out.length ≤ max a.length b.length + 1
set_option maxHeartbeats 1000000 in
theorem add_any (a b : List Nat) (va vb : Value) (w : World) (hva : NumIs w va a) (hvb : NumIs w vb b) (ha : ∀ x ∈ a, x < 256) (hb : ∀ x ∈ b, x < 256) (hal : a.length ≤ 1000) (hbl : b.length ≤ 1000) :
    Calls Tryd.prog 89 #[va, vb] w fun e w' => ∃ v out, e = .returned v ∧ Added a b out ∧ w'.ownsRow w.heap.size 3 1 v out.length (ints .i64 out) ∧ Below w.heap.size w w' := by
  obtain ⟨pa, ca, rfl, hca, hra⟩ := hva
  obtain ⟨pb, cb, rfl, hcb, hrb⟩ := hvb
  have HRA : Hid (a ≠ [] → ∃ b o, pa = some ⟨b, o, none⟩ ∧ w.rangeAt b o (ints .i64 a)) := hra
  have HRB : Hid (b ≠ [] → ∃ b' o, pb = some ⟨b', o, none⟩ ∧ w.rangeAt b' o (ints .i64 b)) := hrb
  have HA : Hid (∀ x ∈ a, x < 256) := ha
  have HB : Hid (∀ x ∈ b, x < 256) := hb
  obtain ⟨la, hla⟩ : ∃ la, a.length = la := ⟨_, rfl⟩
  obtain ⟨lb, hlb⟩ : ∃ lb, b.length = lb := ⟨_, rfl⟩
  have HLA : Hid (a.length = la) := hla
  have HLB : Hid (b.length = lb) := hlb
  rw [hla] at hal hca ⊢
  rw [hlb] at hbl hcb ⊢
  clear hra hrb ha hb hla hlb
  obtain ⟨M, hM⟩ : ∃ M, max la lb = M := ⟨_, rfl⟩
  have hM1 : la ≤ M := by omega
  have hM2 : lb ≤ M := by omega
  have hM3 : M ≤ 1000 := by omega
  have HMM : Hid (max la lb = M) := hM
  clear hM
  go_enter Tryd.func89, Tryd.ntmps89
  go_wp2_with fail
  go_loopw [5, 6, 7] (fun sl cv u wr => ∃ (i c : Nat) (out : List Nat), i ≤ M + 1 ∧ (i ≤ M ∨ c = 0) ∧ c ≤ 1 ∧ u = .int .i64 i ∧ cv = .int .i64 c ∧ Hid (wr.ownsRow w.heap.size 3 1 sl i (ints .i64 out)) ∧ Hid (Below w.heap.size w wr) ∧ Hid (out.length = i) ∧ Hid (∀ x ∈ out, x < 256) ∧ Hid (Po.pos 256 out + 256 ^ i * c = Po.pos 256 (a.take i) + Po.pos 256 (b.take i))) (fun _ _ u _ => M + 2 - (intOf u).toNat)
  case atStart => exact ⟨0, 0, [], by omega, .inl (by omega), by omega, rfl, rfl, own_none _ _ _ _, Below.refl _ _, rfl, fun x hx => by simp at hx, by show _ = _; simp [Po.pos]⟩
  case round =>
    obtain ⟨i, c, out, hi, hic, hc, rfl, rfl, HO, HW, HL, HS, HP⟩ := hrel
    obtain ⟨q, cq, rfl⟩ := own_slice HO.out
    have hbn := HW.out.size
    by_cases hdone : la ≤ i ∧ lb ≤ i ∧ c = 0
    · obtain ⟨d1, d2, rfl⟩ := hdone
      have h1 : ¬ (i : Int) < (la : Int) := by omega
      have h2 : ¬ (i : Int) < (lb : Int) := by omega
      have hp := HP.out
      rw [Nat.mul_zero, Nat.add_zero, List.take_of_length_le (by rw [HLA.out]; exact d1), List.take_of_length_le (by rw [HLB.out]; exact d2)] at hp
      have HAD : Hid (Added a b out) := ⟨HS.out, hp, by rw [HLA.out, HLB.out, HL.out]; have := HMM.out; omega, by rw [HLA.out, HLB.out, HL.out]; have := HMM.out; omega⟩
      clear hp HP HS
      go_wp2_with fail
      go_ret
      exact ⟨_, rfl, out, HAD.out, by rw [HL.out]; exact HO.out, HW.out⟩
    · have xa : Sp.nth a i < 256 := Sp.nth_lt (by decide) HA.out i
      have xb : Sp.nth b i < 256 := Sp.nth_lt (by decide) HB.out i
      have HST := add_step HL.out HP.out
      have HST' : Hid _ := HST
      clear HST
      have iM : i ≤ M := by omega
      by_cases hA : i < la
      · by_cases hB : i < lb
        · obtain ⟨ba, oa, rfl, hr1⟩ := HRA.out (by intro e; have := HLA.out; rw [e] at this; simp at this; omega)
          have c1 := range_cell (rangeAt_below HW.out hr1) i (by rw [HLA.out]; exact hA)
          have g1 : (i : Int) < (la : Int) := by omega
          clear hr1
          obtain ⟨bb, ob, rfl, hr2⟩ := HRB.out (by intro e; have := HLB.out; rw [e] at this; simp at this; omega)
          have c2 := range_cell (rangeAt_below HW.out hr2) i (by rw [HLB.out]; exact hB)
          have g2 : (i : Int) < (lb : Int) := by omega
          clear hr2
          obtain ⟨tot, htot⟩ : ∃ tot, c + Sp.nth a i + Sp.nth b i = tot := ⟨_, rfl⟩
          rw [htot] at HST'
          have htt : (c : Int) + ((Sp.nth a i : Nat) : Int) + ((Sp.nth b i : Nat) : Int) = (tot : Int) := by omega
          have htt1 : (c : Int) + ((Sp.nth a i : Nat) : Int) ≤ 1000 := by omega
          have ht5 : tot < 512 := by omega
          have m1 : (tot : Int).tmod 256 = ((tot % 256 : Nat) : Int) := by rw [Int.tmod_eq_emod_of_nonneg (by omega)]; omega
          have d1 : (tot : Int).tdiv 256 = ((tot / 256 : Nat) : Int) := by rw [Int.tdiv_eq_ediv_of_nonneg (by omega)]; omega
          clear htot
          have HSN : Hid (∀ x ∈ out ++ [tot % 256], x < 256) := fun x hx => by
            rcases List.mem_append.1 hx with h | h
            · exact HS.out x h
            · rw [List.mem_singleton.1 h]; exact Nat.mod_lt _ (by decide)
          have HLN : Hid ((out ++ [tot % 256]).length = i + 1) := by show _ = _; simp [HL.out]
          generalize Sp.nth a i = y1 at *
          generalize Sp.nth b i = y2 at *
          clear HS HP HL
          go_wp2_with (first | with_reducible (refine stop_builtin .append ?_))
          refine Stop.go ?_
          have HO2 : Hid ((wr.alloc (Obj.cells #[.int .i64 ((tot % 256 : Nat) : Int)] 3)).ownsRow w.heap.size 3 1 (.slice q i cq) i (ints .i64 out)) := ownsRow_alloc HO.out _
          have HW2 : Hid (Below w.heap.size w (wr.alloc (Obj.cells #[.int .i64 ((tot % 256 : Nat) : Int)] 3))) := HW.out.alloc hbn _
          refine law_append_ints w.heap.size (.slice q i cq) i out wr.heap.size 1 1 [tot % 256] rfl rfl rfl HO2.out (rangeAt_of_row (heap_alloc_new wr _)) (by omega) (by simp; omega) ?_
          intro v' w' hown' hg'
          have HO3 : Hid (w'.ownsRow w.heap.size 3 1 v' (i + 1) (ints .i64 (out ++ [tot % 256]))) := hown'
          have HW3 : Hid (Below w.heap.size w w') := below_grown' HW2.out hg' HO2.out (by simp; omega) (Nat.le_refl _)
          clear hown' hg' HO HW HO2 HW2
          go_wp2_with fail
          go_roundw
          case rel =>
            refine ⟨i + 1, tot / 256, out ++ [tot % 256], by omega, ?_, by omega, ?_, ?_, HO3.out, HW3.out, HLN.out, HSN.out, HST'.out⟩
            · omega
            · go_num
            · go_num
          case measure => simp [intOf]; omega
        · obtain ⟨ba, oa, rfl, hr1⟩ := HRA.out (by intro e; have := HLA.out; rw [e] at this; simp at this; omega)
          have c1 := range_cell (rangeAt_below HW.out hr1) i (by rw [HLA.out]; exact hA)
          have g1 : (i : Int) < (la : Int) := by omega
          clear hr1
          have g2 : ¬ (i : Int) < (lb : Int) := by omega
          have z2 : Sp.nth b i = 0 := nth_beyond (by rw [HLB.out]; omega)
          rw [z2] at HST'
          obtain ⟨tot, htot⟩ : ∃ tot, c + Sp.nth a i + 0 = tot := ⟨_, rfl⟩
          rw [htot] at HST'
          have htt : (c : Int) + ((Sp.nth a i : Nat) : Int) = (tot : Int) := by omega
          have ht5 : tot < 512 := by omega
          have m1 : (tot : Int).tmod 256 = ((tot % 256 : Nat) : Int) := by rw [Int.tmod_eq_emod_of_nonneg (by omega)]; omega
          have d1 : (tot : Int).tdiv 256 = ((tot / 256 : Nat) : Int) := by rw [Int.tdiv_eq_ediv_of_nonneg (by omega)]; omega
          clear htot
          have HSN : Hid (∀ x ∈ out ++ [tot % 256], x < 256) := fun x hx => by
            rcases List.mem_append.1 hx with h | h
            · exact HS.out x h
            · rw [List.mem_singleton.1 h]; exact Nat.mod_lt _ (by decide)
          have HLN : Hid ((out ++ [tot % 256]).length = i + 1) := by show _ = _; simp [HL.out]
          generalize Sp.nth a i = y1 at *
          clear HS HP HL
          go_wp2_with (first | with_reducible (refine stop_builtin .append ?_))
          refine Stop.go ?_
          have HO2 : Hid ((wr.alloc (Obj.cells #[.int .i64 ((tot % 256 : Nat) : Int)] 3)).ownsRow w.heap.size 3 1 (.slice q i cq) i (ints .i64 out)) := ownsRow_alloc HO.out _
          have HW2 : Hid (Below w.heap.size w (wr.alloc (Obj.cells #[.int .i64 ((tot % 256 : Nat) : Int)] 3))) := HW.out.alloc hbn _
          refine law_append_ints w.heap.size (.slice q i cq) i out wr.heap.size 1 1 [tot % 256] rfl rfl rfl HO2.out (rangeAt_of_row (heap_alloc_new wr _)) (by omega) (by simp; omega) ?_
          intro v' w' hown' hg'
          have HO3 : Hid (w'.ownsRow w.heap.size 3 1 v' (i + 1) (ints .i64 (out ++ [tot % 256]))) := hown'
          have HW3 : Hid (Below w.heap.size w w') := below_grown' HW2.out hg' HO2.out (by simp; omega) (Nat.le_refl _)
          clear hown' hg' HO HW HO2 HW2
          go_wp2_with fail
          go_roundw
          case rel =>
            refine ⟨i + 1, tot / 256, out ++ [tot % 256], by omega, ?_, by omega, ?_, ?_, HO3.out, HW3.out, HLN.out, HSN.out, HST'.out⟩
            · omega
            · go_num
            · go_num
          case measure => simp [intOf]; omega
      · by_cases hB : i < lb
        · have g1 : ¬ (i : Int) < (la : Int) := by omega
          have z1 : Sp.nth a i = 0 := nth_beyond (by rw [HLA.out]; omega)
          rw [z1] at HST'
          obtain ⟨bb, ob, rfl, hr2⟩ := HRB.out (by intro e; have := HLB.out; rw [e] at this; simp at this; omega)
          have c2 := range_cell (rangeAt_below HW.out hr2) i (by rw [HLB.out]; exact hB)
          have g2 : (i : Int) < (lb : Int) := by omega
          clear hr2
          obtain ⟨tot, htot⟩ : ∃ tot, c + 0 + Sp.nth b i = tot := ⟨_, rfl⟩
          rw [htot] at HST'
          have htt : (c : Int) + ((Sp.nth b i : Nat) : Int) = (tot : Int) := by omega
          have ht5 : tot < 512 := by omega
          have m1 : (tot : Int).tmod 256 = ((tot % 256 : Nat) : Int) := by rw [Int.tmod_eq_emod_of_nonneg (by omega)]; omega
          have d1 : (tot : Int).tdiv 256 = ((tot / 256 : Nat) : Int) := by rw [Int.tdiv_eq_ediv_of_nonneg (by omega)]; omega
          clear htot
          have HSN : Hid (∀ x ∈ out ++ [tot % 256], x < 256) := fun x hx => by
            rcases List.mem_append.1 hx with h | h
            · exact HS.out x h
            · rw [List.mem_singleton.1 h]; exact Nat.mod_lt _ (by decide)
          have HLN : Hid ((out ++ [tot % 256]).length = i + 1) := by show _ = _; simp [HL.out]
          generalize Sp.nth b i = y2 at *
          clear HS HP HL
          go_wp2_with (first | with_reducible (refine stop_builtin .append ?_))
          refine Stop.go ?_
          have HO2 : Hid ((wr.alloc (Obj.cells #[.int .i64 ((tot % 256 : Nat) : Int)] 3)).ownsRow w.heap.size 3 1 (.slice q i cq) i (ints .i64 out)) := ownsRow_alloc HO.out _
          have HW2 : Hid (Below w.heap.size w (wr.alloc (Obj.cells #[.int .i64 ((tot % 256 : Nat) : Int)] 3))) := HW.out.alloc hbn _
          refine law_append_ints w.heap.size (.slice q i cq) i out wr.heap.size 1 1 [tot % 256] rfl rfl rfl HO2.out (rangeAt_of_row (heap_alloc_new wr _)) (by omega) (by simp; omega) ?_
          intro v' w' hown' hg'
          have HO3 : Hid (w'.ownsRow w.heap.size 3 1 v' (i + 1) (ints .i64 (out ++ [tot % 256]))) := hown'
          have HW3 : Hid (Below w.heap.size w w') := below_grown' HW2.out hg' HO2.out (by simp; omega) (Nat.le_refl _)
          clear hown' hg' HO HW HO2 HW2
          go_wp2_with fail
          go_roundw
          case rel =>
            refine ⟨i + 1, tot / 256, out ++ [tot % 256], by omega, ?_, by omega, ?_, ?_, HO3.out, HW3.out, HLN.out, HSN.out, HST'.out⟩
            · omega
            · go_num
            · go_num
          case measure => simp [intOf]; omega
        · have g1 : ¬ (i : Int) < (la : Int) := by omega
          have z1 : Sp.nth a i = 0 := nth_beyond (by rw [HLA.out]; omega)
          rw [z1] at HST'
          have g2 : ¬ (i : Int) < (lb : Int) := by omega
          have z2 : Sp.nth b i = 0 := nth_beyond (by rw [HLB.out]; omega)
          rw [z2] at HST'
          have hc1 : c = 1 := by omega
          subst hc1
          obtain ⟨tot, htot⟩ : ∃ tot, 1 + 0 + 0 = tot := ⟨_, rfl⟩
          rw [htot] at HST'
          obtain rfl : tot = 1 := by omega
          clear htot
          have HSN : Hid (∀ x ∈ out ++ [1 % 256], x < 256) := fun x hx => by
            rcases List.mem_append.1 hx with h | h
            · exact HS.out x h
            · rw [List.mem_singleton.1 h]; exact Nat.mod_lt _ (by decide)
          have HLN : Hid ((out ++ [1 % 256]).length = i + 1) := by show _ = _; simp [HL.out]
          clear HS HP HL
          go_wp2_with (first | with_reducible (refine stop_builtin .append ?_))
          refine Stop.go ?_
          have HO2 : Hid ((wr.alloc (Obj.cells #[.int .i64 1] 3)).ownsRow w.heap.size 3 1 (.slice q i cq) i (ints .i64 out)) := ownsRow_alloc HO.out _
          have HW2 : Hid (Below w.heap.size w (wr.alloc (Obj.cells #[.int .i64 1] 3))) := HW.out.alloc hbn _
          refine law_append_ints w.heap.size (.slice q i cq) i out wr.heap.size 1 1 [1 % 256] rfl rfl rfl HO2.out (rangeAt_of_row (heap_alloc_new wr _)) (by omega) (by simp; omega) ?_
          intro v' w' hown' hg'
          have HO3 : Hid (w'.ownsRow w.heap.size 3 1 v' (i + 1) (ints .i64 (out ++ [1 % 256]))) := hown'
          have HW3 : Hid (Below w.heap.size w w') := below_grown' HW2.out hg' HO2.out (by simp; omega) (Nat.le_refl _)
          clear hown' hg' HO HW HO2 HW2
          go_wp2_with fail
          go_roundw
          case rel =>
            refine ⟨i + 1, 1 / 256, out ++ [1 % 256], by omega, ?_, by omega, ?_, ?_, HO3.out, HW3.out, HLN.out, HSN.out, HST'.out⟩
            · omega
            · go_num
            · go_num
          case measure => simp [intOf]; omega
end Go.Proofs.YtbblokikhocdfaaDoor.P4
/- The document's answer: times. -/
namespace Go.Proofs.YtbblokikhocdfaaDoor.P4
open Go.RowKit
theorem make_ints (l : Nat) (hc : l ≤ 1000000) (w : World) :
    (Instr.makeSlice 83 (.int .i64 (l : Int)) (.int .i64 (l : Int))).run Tryd.prog w = .ok (.slice (some ⟨w.heap.size, 0, none⟩) l l) (w.alloc (.cells (arr .i64 (List.replicate l 0)) 3)) := by
  obtain ⟨i, hi, hs, hb, hz⟩ := info3e
  have := run_make (P := Tryd.prog) w 83 3 i _ Tryd.underlying83 hi hz .i64 .i64 (l : Int) (l : Int) (by omega) (by omega) (by rw [hb]; omega) (by omega)
  rw [this, hs, ← made_zeros]
  simp [Value.cells]
/-- A row of numbers in a block of its own. -/
def RowOf (w : World) (g : Nat) (l : List Nat) : Prop := w.heap[g]? = some (.cells (arr .i64 l) 3 (0, 0))
theorem RowOf.cell {w : World} {g : Nat} {l : List Nat} (h : RowOf w g l) (i : Nat) (hi : i < l.length) : w.cell? ⟨g, i, none⟩ = some (.int .i64 (Sp.nth l i : Nat)) := by
  rw [cell_of_row _ _ _ _ _ _ h]; exact arr_get _ _ _ hi
theorem RowOf.may {w : World} {g : Nat} {l : List Nat} (h : RowOf w g l) (i : Nat) : w.frozen? ⟨g, i, none⟩ = false := frozen_of_row _ _ _ _ _ h
theorem RowOf.set {w : World} {g : Nat} {l : List Nat} (h : RowOf w g l) (i x : Nat) : RowOf (w.setCell ⟨g, i, none⟩ (.int .i64 (x : Nat))) g (l.set i x) := by
  have := heap_setCell_same w g i (arr .i64 l) 3 (.int .i64 (x : Nat)) h
  unfold RowOf
  rw [this]
  congr 2
  apply Array.ext'
  simp [arr, ints]
theorem RowOf.drewN {w : World} {g : Nat} {l : List Nat} (h : RowOf w g l) (n : Nat) : RowOf (w.drewN n) g l := h
theorem RowOf.num {w : World} {g n : Nat} {l : List Nat} (h : RowOf w g l) (hl : l.length = n) : NumIs w (.slice (some ⟨g, 0, none⟩) n n) l := ⟨_, n, by rw [hl], by omega, fun _ => ⟨g, 0, rfl, rangeAt_of_row h⟩⟩
theorem nth_set' {l : List Nat} {i j x : Nat} : Sp.nth (l.set i x) j = if i = j ∧ i < l.length then x else Sp.nth l j := by
  unfold Sp.nth
  rw [List.getD_eq_getElem?_getD, List.getD_eq_getElem?_getD, List.getElem?_set]
  by_cases h : i = j
  · subst h
    by_cases h2 : i < l.length
    · simp [h2]
    · simp [h2]
  · simp [h]
theorem set_bound {o : List Nat} {v Z D : Nat} (h : ∀ j, Sp.nth o j ≤ Z) (hv : v ≤ D) (p j : Nat) : Sp.nth (o.set p (Sp.nth o p + v)) j ≤ Z + D := by
  rw [nth_set']
  have h1 := h j
  have h2 := h p
  split <;> omega
theorem mul_part {a b o : List Nat} {i k : Nat} (hk : k < b.length) (hl : i + k < o.length)
    (h : Po.pos 256 o = Po.pos 256 (a.take i) * Po.pos 256 b + 256 ^ i * Sp.nth a i * Po.pos 256 (b.take k)) :
    Po.pos 256 (o.set (i + k) (Sp.nth o (i + k) + Sp.nth a i * Sp.nth b k)) = Po.pos 256 (a.take i) * Po.pos 256 b + 256 ^ i * Sp.nth a i * Po.pos 256 (b.take (k + 1)) := by
  rw [Po.pos_set _ _ _ _ hl, Po.pos_take _ hk, Nat.mul_add, h, ← Nat.add_assoc]
  congr 1
  rw [Nat.pow_add, Nat.mul_assoc, Nat.mul_assoc]
  congr 1
  rw [← Nat.mul_assoc, ← Nat.mul_assoc, Nat.mul_comm (256 ^ k)]
theorem set_nth {l : List Nat} {i : Nat} : l.set i (Sp.nth l i) = l := by
  apply List.ext_getElem (by simp)
  intro j h1 h2
  by_cases hj : j = i
  · subst hj; simp [Sp.nth, h2]
  · simp [Ne.symm hj]
theorem nth_set_here {l : List Nat} {i x : Nat} (h : i < l.length) : Sp.nth (l.set i x) i = x := by simp [Sp.nth, h]
theorem pos_lower {b : Nat} {l : List Nat} {i u d : Nat} (hi : i < l.length) (h : Sp.nth l i = u + d) : Po.pos b (l.set i u) + b ^ i * d = Po.pos b l := by
  have h1 := Po.pos_set b (l.set i u) i d (by simpa using hi)
  rw [nth_set_here hi, List.set_set, ← h, set_nth] at h1
  exact h1.symm
/-- One step of the carrying. -/
theorem carry_part {o : List Nat} {i : Nat} (hl : i + 1 < o.length) :
    Po.pos 256 ((o.set (i + 1) (Sp.nth o (i + 1) + Sp.nth o i / 256)).set i (Sp.nth o i % 256)) = Po.pos 256 o := by
  have h1 := Po.pos_set 256 o (i + 1) (Sp.nth o i / 256) hl
  have h2 := pos_lower (b := 256) (l := o.set (i + 1) (Sp.nth o (i + 1) + Sp.nth o i / 256)) (i := i) (u := Sp.nth o i % 256) (d := 256 * (Sp.nth o i / 256)) (by simp; omega) (by
    rw [nth_set', if_neg (by omega)]
    have := Nat.mod_add_div (Sp.nth o i) 256
    omega)
  rw [h1, Nat.pow_succ, Nat.mul_assoc] at h2
  omega
structure Carrying (o : List Nat) (V N i : Nat) : Prop where
  len : o.length = N
  val : Po.pos 256 o = V
  done : ∀ j, j < i → Sp.nth o j < 256
  here : Sp.nth o i ≤ 14000000000
  more : ∀ j, i < j → Sp.nth o j ≤ 6600000000
theorem Carrying.step {o : List Nat} {V N i : Nat} (c : Carrying o V N i) (h : i + 1 < N) : Carrying ((o.set (i + 1) (Sp.nth o (i + 1) + Sp.nth o i / 256)).set i (Sp.nth o i % 256)) V N (i + 1) where
  len := by rw [List.length_set, List.length_set]; exact c.len
  val := by rw [carry_part (by rw [c.len]; exact h)]; exact c.val
  done := fun j hj => by
    rw [nth_set']
    split
    · exact Nat.mod_lt _ (by decide)
    · rw [nth_set', if_neg (by omega)]
      have : j ≠ i := fun e => by subst e; simp [c.len] at *; omega
      exact c.done j (by omega)
  here := by
    rw [nth_set', if_neg (by omega), nth_set', if_pos ⟨rfl, by rw [c.len]; exact h⟩]
    have := c.here
    have := c.more (i + 1) (by omega)
    omega
  more := fun j hj => by
    rw [nth_set', if_neg (by omega), nth_set', if_neg (by omega)]
    exact c.more j (by omega)
theorem nth_last {b : Nat} : ∀ {l : List Nat} {n : Nat}, n < l.length → b ^ n * Sp.nth l n ≤ Po.pos b l
  | [], n, h => by simp at h
  | x :: l, 0, _ => by simp [Po.pos, Sp.nth]
  | x :: l, n + 1, h => by
    have := nth_last (b := b) (l := l) (n := n) (by simpa using h)
    rw [Po.pos, Nat.pow_succ, show Sp.nth (x :: l) (n + 1) = Sp.nth l n from rfl, Nat.mul_comm (b ^ n) b, Nat.mul_assoc]
    have : b * (b ^ n * Sp.nth l n) ≤ b * Po.pos b l := Nat.mul_le_mul_left _ this
    omega
theorem Carrying.all {o : List Nat} {V n : Nat} (c : Carrying o V (n + 1) n) (hV : V < 256 ^ n) : ∀ x ∈ o, x < 256 := fun x hx => by
  obtain ⟨j, hj, rfl⟩ := List.getElem_of_mem hx
  have e : o[j] = Sp.nth o j := by simp [Sp.nth, hj]
  rw [e]
  rw [c.len] at hj
  by_cases h : j < n
  · exact c.done j h
  · obtain rfl : j = n := by omega
    have h1 := nth_last (b := 256) (l := o) (n := j) (by rw [c.len]; omega)
    rw [c.val] at h1
    rcases Nat.eq_zero_or_pos (Sp.nth o j) with h2 | h2
    · omega
    · have : 256 ^ j * 1 ≤ 256 ^ j * Sp.nth o j := Nat.mul_le_mul_left _ h2
      omega
theorem mul_bytes {x y : Nat} (hx : x < 256) (hy : y < 256) : x * y ≤ 65025 := by
  have := Nat.mul_le_mul (Nat.le_of_lt_succ hx) (Nat.le_of_lt_succ hy)
  omega
set_option maxHeartbeats 1000000 in
theorem rtimes_any (a b : List Nat) (va vb : Value) (w : World) (hva : NumIs w va a) (hvb : NumIs w vb b) (ha : ∀ x ∈ a, x < 256) (hb : ∀ x ∈ b, x < 256) (hal : a.length ≤ 1000) (hbl : b.length ≤ 100) :
    Calls Tryd.prog 88 #[va, vb] w fun e w' => ∃ v out, e = .returned v ∧ NumIs w' v out ∧ out.length = a.length + b.length + 1 ∧ (∀ x ∈ out, x < 256) ∧ Po.pos 256 out = Po.pos 256 a * Po.pos 256 b ∧ Below w.heap.size w w' := by
  have HV : Hid (Po.pos 256 a * Po.pos 256 b < 256 ^ (a.length + b.length)) := by
    have h1 := Po.pos_lt (b := 256) (by decide) ha
    have h2 := Po.pos_lt (b := 256) (by decide) hb
    show _ < _
    rw [Nat.pow_add]
    exact Nat.mul_lt_mul'' h1 h2
  obtain ⟨pa, ca, rfl, hca, hra⟩ := hva
  obtain ⟨pb, cb, rfl, hcb, hrb⟩ := hvb
  have HRA : Hid (a ≠ [] → ∃ b o, pa = some ⟨b, o, none⟩ ∧ w.rangeAt b o (ints .i64 a)) := hra
  have HRB : Hid (b ≠ [] → ∃ b' o, pb = some ⟨b', o, none⟩ ∧ w.rangeAt b' o (ints .i64 b)) := hrb
  have HA : Hid (∀ x ∈ a, x < 256) := ha
  have HB : Hid (∀ x ∈ b, x < 256) := hb
  obtain ⟨la, hla⟩ : ∃ la, a.length = la := ⟨_, rfl⟩
  obtain ⟨lb, hlb⟩ : ∃ lb, b.length = lb := ⟨_, rfl⟩
  have HLA : Hid (a.length = la) := hla
  have HLB : Hid (b.length = lb) := hlb
  rw [hla] at hal hca HV ⊢
  rw [hlb] at hbl hcb HV ⊢
  clear hra hrb ha hb hla hlb
  obtain ⟨V, hV⟩ : ∃ V, Po.pos 256 a * Po.pos 256 b = V := ⟨_, rfl⟩
  rw [hV] at HV ⊢
  have HVE : Hid (Po.pos 256 a * Po.pos 256 b = V) := hV
  clear hV
  have hmk : ∀ w, (Instr.makeSlice 83 (.int .i64 ((la : Int) + (lb : Int) + 1)) (.int .i64 ((la : Int) + (lb : Int) + 1))).run Tryd.prog w = .ok (.slice (some ⟨w.heap.size, 0, none⟩) (la + lb + 1) (la + lb + 1)) (w.alloc (.cells (arr .i64 (List.replicate (la + lb + 1) 0)) 3)) := fun w => by
    have := make_ints (la + lb + 1) (by omega) w
    rw [show ((la + lb + 1 : Nat) : Int) = (la : Int) + (lb : Int) + 1 from by omega] at this
    exact this
  go_enter Tryd.func88, Tryd.ntmps88
  go_wp2_with fail
  have H0 : Hid (RowOf (w.alloc (.cells (arr .i64 (List.replicate (la + lb + 1) 0)) 3)) w.heap.size (List.replicate (la + lb + 1) 0)) := heap_alloc_new w _
  have HW0 : Hid (Below w.heap.size w (w.alloc (.cells (arr .i64 (List.replicate (la + lb + 1) 0)) 3))) := (Below.refl _ _).alloc (Nat.le_refl _) _
  clear hmk
  generalize w.alloc (.cells (arr .i64 (List.replicate (la + lb + 1) 0)) 3) = W at *
  obtain ⟨N, hN⟩ : ∃ N, la + lb + 1 = N := ⟨_, rfl⟩
  rw [hN] at H0 ⊢
  have HN : Hid (la + lb + 1 = N) := hN
  have hN2 : N ≤ 1101 := by omega
  have hN3 : la + lb < N := by omega
  clear hN
  go_loopw [6] (fun u wr => ∃ (i : Nat) (o : List Nat), i ≤ la ∧ u = .int .i64 i ∧ Hid (RowOf wr w.heap.size o) ∧ Hid (Below w.heap.size w wr) ∧ Hid (o.length = N) ∧ Hid (∀ j, Sp.nth o j ≤ 100 * i * 65025) ∧ Hid (Po.pos 256 o = Po.pos 256 (a.take i) * Po.pos 256 b)) (fun u _ => la - (intOf u).toNat)
  case atStart =>
    refine ⟨0, _, by omega, rfl, H0.out, HW0.out, by show _ = _; simp, fun j => ?_, by show _ = _; rw [pos_nought]; simp [Po.pos]⟩
    have : Sp.nth (List.replicate N 0) j < 1 := Sp.nth_lt (by decide) (fun x hx => by rw [List.eq_of_mem_replicate hx]; decide) j
    omega
  case round =>
    clear H0 HW0
    obtain ⟨i, o, hi, rfl, HO, HW, HOL, HM, HP⟩ := hrel
    by_cases hlt : i < la
    · have i0 : (0 : Int) ≤ (i : Int) := by omega
      have i1 : (i : Int) < (la : Int) := by omega
      obtain ⟨ba, oa, rfl, hr1⟩ := HRA.out (by intro e; have := HLA.out; rw [e] at this; simp at this; omega)
      have HR1 : Hid (w.rangeAt ba oa (ints .i64 a)) := hr1
      clear hr1
      go_wp2_with fail
      go_loopw [7] (fun u wr => ∃ (k : Nat) (o : List Nat), k ≤ lb ∧ u = .int .i64 k ∧ Hid (RowOf wr w.heap.size o) ∧ Hid (Below w.heap.size w wr) ∧ Hid (o.length = N) ∧ Hid (∀ j, Sp.nth o j ≤ (100 * i + k) * 65025) ∧ Hid (Po.pos 256 o = Po.pos 256 (a.take i) * Po.pos 256 b + 256 ^ i * Sp.nth a i * Po.pos 256 (b.take k))) (fun u _ => lb - (intOf u).toNat)
      case atStart => exact ⟨0, o, by omega, rfl, HO.out, HW.out, HOL.out, HM.out, by show _ = _; rw [HP.out]; simp [Po.pos]⟩
      case round =>
        clear HO HW HOL HM HP
        obtain ⟨k, o, hk, rfl, HO, HW, HOL, HM, HP⟩ := hrel
        by_cases hkl : k < lb
        · obtain ⟨bb, ob, rfl, hr2⟩ := HRB.out (by intro e; have := HLB.out; rw [e] at this; simp at this; omega)
          have c1 := range_cell (rangeAt_below HW.out HR1.out) i (by rw [HLA.out]; exact hlt)
          have c2 := range_cell (rangeAt_below HW.out hr2) k (by rw [HLB.out]; exact hkl)
          have co := HO.out.cell (i + k) (by rw [HOL.out]; omega)
          have cf := HO.out.may (i + k)
          have x1 : Sp.nth a i < 256 := Sp.nth_lt (by decide) HA.out i
          have x2 : Sp.nth b k < 256 := Sp.nth_lt (by decide) HB.out k
          have hv := mul_bytes x1 x2
          have bz := HM.out (i + k)
          have HO2 : Hid (RowOf ((wr.setCell ⟨w.heap.size, i + k, none⟩ (.int .i64 ((Sp.nth o (i + k) + Sp.nth a i * Sp.nth b k : Nat) : Int))).drew) w.heap.size (o.set (i + k) (Sp.nth o (i + k) + Sp.nth a i * Sp.nth b k))) := HO.out.set _ _
          have HW2 : Hid (Below w.heap.size w ((wr.setCell ⟨w.heap.size, i + k, none⟩ (.int .i64 ((Sp.nth o (i + k) + Sp.nth a i * Sp.nth b k : Nat) : Int))).drew)) := below_drewN (HW.out.setCell (Nat.le_refl _) _) 1
          have HOL2 : Hid ((o.set (i + k) (Sp.nth o (i + k) + Sp.nth a i * Sp.nth b k)).length = N) := by show _ = _; rw [List.length_set]; exact HOL.out
          have HM2 : Hid (∀ j, Sp.nth (o.set (i + k) (Sp.nth o (i + k) + Sp.nth a i * Sp.nth b k)) j ≤ (100 * i + (k + 1)) * 65025) := fun j => Nat.le_trans (set_bound HM.out hv (i + k) j) (Nat.le_of_eq (Nat.succ_mul (100 * i + k) 65025).symm)
          have HP2 : Hid (Po.pos 256 (o.set (i + k) (Sp.nth o (i + k) + Sp.nth a i * Sp.nth b k)) = Po.pos 256 (a.take i) * Po.pos 256 b + 256 ^ i * Sp.nth a i * Po.pos 256 (b.take (k + 1))) := mul_part (by rw [HLB.out]; exact hkl) (by rw [HOL.out]; omega) HP.out
          have e1 : ((Sp.nth a i : Nat) : Int) * ((Sp.nth b k : Nat) : Int) = ((Sp.nth a i * Sp.nth b k : Nat) : Int) := by simp
          clear hr2 HO HW HOL HM HP
          generalize o.set (i + k) (Sp.nth o (i + k) + Sp.nth a i * Sp.nth b k) = o2 at *
          generalize Sp.nth a i * Sp.nth b k = v at *
          generalize Sp.nth o (i + k) = old at *
          generalize hy : Sp.nth a i = y at c1 x1 e1 ⊢
          have HY : Hid (Sp.nth a i = y) := hy
          clear hy
          generalize Sp.nth b k = z at c2 x2 e1
          have e2 : ((old + v : Nat) : Int) = (old : Int) + (v : Int) := by omega
          rw [e2] at HO2 HW2
          have k0 : (0 : Int) ≤ (k : Int) := by omega
          have k1 : (k : Int) < (lb : Int) := by omega
          have q0 : (0 : Int) ≤ (i : Int) + (k : Int) := by omega
          have q1 : (i : Int) + (k : Int) < (N : Int) := by omega
          have q2 : ((i : Int) + (k : Int)).toNat = i + k := by omega
          have ob1 : (old : Int) ≤ 6600000000 := by omega
          have vb1 : (v : Int) ≤ 65025 := by omega
          go_wp2_with fail
          go_region
          go_wp2_with fail
          go_roundw
          case rel => exact ⟨k + 1, o2, by omega, by go_num, HO2.out, HW2.out, HOL2.out, HM2.out, by show _ = _; rw [← HY.out]; exact HP2.out⟩
          case measure => simp [intOf]; omega
        · obtain rfl : k = lb := by omega
          have HP6 : Hid (Po.pos 256 o = Po.pos 256 (a.take (i + 1)) * Po.pos 256 b) := by
            show _ = _
            rw [HP.out, List.take_of_length_le (l := b) (by rw [HLB.out]; exact Nat.le_refl _), Po.pos_take _ (by rw [HLA.out]; exact hlt), Nat.add_mul]
          have HM6 : Hid (∀ j, Sp.nth o j ≤ 100 * (i + 1) * 65025) := fun j => Nat.le_trans (HM.out j) (Nat.mul_le_mul_right _ (by omega))
          clear HP HM
          go_wp2_with fail
          go_roundw
          case rel => exact ⟨i + 1, o, by omega, by go_num, HO.out, HW.out, HOL.out, HM6.out, HP6.out⟩
          case measure => simp [intOf]; omega
    · obtain rfl : i = la := by omega
      have hp := HP.out
      rw [List.take_of_length_le (by rw [HLA.out]; exact Nat.le_refl _), HVE.out] at hp
      have HC : Hid (Carrying o V N 0) := ⟨HOL.out, hp, fun j hj => by omega, by have := HM.out 0; omega, fun j _ => by have := HM.out j; omega⟩
      clear hp HP HM HOL HRA HRB
      generalize hwr : wr = w3 at *
      clear hwr
      go_wp2_with fail
      go_loopw [8] (fun u wr => ∃ (j : Nat) (o : List Nat), j + 1 ≤ N ∧ u = .int .i64 j ∧ Hid (RowOf wr w.heap.size o) ∧ Hid (Below w.heap.size w wr) ∧ Hid (Carrying o V N j)) (fun u _ => N - (intOf u).toNat)
      case atStart => exact ⟨0, o, by omega, rfl, HO.out, HW.out, HC.out⟩
      case round =>
        clear HO HW HC
        obtain ⟨j, o, hj, rfl, HO, HW, HC⟩ := hrel
        by_cases hjl : j + 1 < N
        · have hlen := HC.out.len
          have cj := HO.out.cell j (by omega)
          have cj1 := HO.out.cell (j + 1) (by omega)
          have fj1 := HO.out.may (j + 1)
          have b1 := HC.out.here
          have b2 := HC.out.more (j + 1) (by omega)
          have HCN : Hid (Carrying ((o.set (j + 1) (Sp.nth o (j + 1) + Sp.nth o j / 256)).set j (Sp.nth o j % 256)) V N (j + 1)) := HC.out.step hjl
          have HO1 : Hid (RowOf ((wr.setCell ⟨w.heap.size, j + 1, none⟩ (.int .i64 ((Sp.nth o (j + 1) + Sp.nth o j / 256 : Nat) : Int))).drew) w.heap.size (o.set (j + 1) (Sp.nth o (j + 1) + Sp.nth o j / 256))) := HO.out.set _ _
          have HW1 : Hid (Below w.heap.size w ((wr.setCell ⟨w.heap.size, j + 1, none⟩ (.int .i64 ((Sp.nth o (j + 1) + Sp.nth o j / 256 : Nat) : Int))).drew)) := below_drewN (HW.out.setCell (Nat.le_refl _) _) 1
          have cj' := HO1.out.cell j (by simp; omega)
          rw [nth_set', if_neg (by omega)] at cj'
          have fj := HO1.out.may j
          have HO2 : Hid (RowOf (((wr.setCell ⟨w.heap.size, j + 1, none⟩ (.int .i64 ((Sp.nth o (j + 1) + Sp.nth o j / 256 : Nat) : Int))).drew).setCell ⟨w.heap.size, j, none⟩ (.int .i64 ((Sp.nth o j % 256 : Nat) : Int))) w.heap.size ((o.set (j + 1) (Sp.nth o (j + 1) + Sp.nth o j / 256)).set j (Sp.nth o j % 256))) := HO1.out.set _ _
          have HW2 : Hid (Below w.heap.size w (((wr.setCell ⟨w.heap.size, j + 1, none⟩ (.int .i64 ((Sp.nth o (j + 1) + Sp.nth o j / 256 : Nat) : Int))).drew).setCell ⟨w.heap.size, j, none⟩ (.int .i64 ((Sp.nth o j % 256 : Nat) : Int)))) := HW1.out.setCell (Nat.le_refl _) _
          clear HO HW HC hlen HO1 HW1
          generalize (o.set (j + 1) (Sp.nth o (j + 1) + Sp.nth o j / 256)).set j (Sp.nth o j % 256) = o2 at *
          generalize Sp.nth o (j + 1) = y at *
          generalize Sp.nth o j = x at *
          have d1 : (x : Int).tdiv 256 = ((x / 256 : Nat) : Int) := by rw [Int.tdiv_eq_ediv_of_nonneg (by omega)]; omega
          have m1 : (x : Int).tmod 256 = ((x % 256 : Nat) : Int) := by rw [Int.tmod_eq_emod_of_nonneg (by omega)]; omega
          have e2 : ((y + x / 256 : Nat) : Int) = (y : Int) + ((x / 256 : Nat) : Int) := by omega
          rw [e2] at HO2 HW2 cj' fj
          have j0 : (0 : Int) ≤ (j : Int) := by omega
          have j1 : (j : Int) + 1 < (N : Int) := by omega
          have j2 : (j : Int) < (N : Int) := by omega
          have xq : ((x / 256 : Nat) : Int) ≤ 100000000 := by omega
          have xq0 : (0 : Int) ≤ ((x / 256 : Nat) : Int) := by omega
          have j3 : ((j : Int) + 1).toNat = j + 1 := by omega
          generalize x / 256 = xd at *
          generalize x % 256 = xm at *
          go_wp2_with fail
          go_region
          generalize (wr.setCell ⟨w.heap.size, j + 1, none⟩ (.int .i64 ((y : Int) + (xd : Int)))).drew = wr1 at *
          clear cj cj1 fj1
          go_wp2_with fail
          go_roundw
          case rel => exact ⟨j + 1, o2, by omega, by go_num, HO2.out, HW2.out, HCN.out⟩
          case measure => simp [intOf]; omega
        · have hjn : j + 1 = N := by omega
          have j1 : ¬ (j : Int) + 1 < (N : Int) := by omega
          have hn := HN.out
          have hjl2 : j = i + lb := by omega
          have hv := HV.out
          rw [← hjl2] at hv
          have hc := HC.out
          rw [← hjn] at hc
          have hall := hc.all hv
          have HF : Hid (NumIs wr (.slice (some ⟨w.heap.size, 0, none⟩) N N) o ∧ o.length = i + lb + 1 ∧ (∀ x ∈ o, x < 256) ∧ Po.pos 256 o = V) := ⟨HO.out.num HC.out.len, by rw [HC.out.len, hn], hall, HC.out.val⟩
          clear hn hjl2 hv hc hall HC hjn HO
          go_wp2_with fail
          go_ret
          exact ⟨_, rfl, o, HF.out.1, HF.out.2.1, HF.out.2.2.1, HF.out.2.2.2, HW.out⟩
end Go.Proofs.YtbblokikhocdfaaDoor.P4
/- The document's answer: high. -/
namespace Go.Proofs.YtbblokikhocdfaaDoor.P4
open Go.RowKit
theorem pos_all_zero {b : Nat} : ∀ {l : List Nat}, (∀ i, Sp.nth l i = 0) → Po.pos b l = 0
  | [], _ => rfl
  | x :: l, h => by
    have h0 : x = 0 := h 0
    have h1 : ∀ i, Sp.nth l i = 0 := fun i => h (i + 1)
    rw [Po.pos, pos_all_zero h1, h0]
    simp
theorem low_of {a : List Nat} (ha : ∀ x ∈ a, x < 256) (h : ∀ i, 17 ≤ i → Sp.nth a i = 0) (h16 : Sp.nth a 16 ≤ 3) : Po.pos 256 a < Po.B ^ 5 := by
  have h1 : Po.pos 256 a = Po.pos 256 (a.take 17) := by
    by_cases hl : 17 ≤ a.length
    · have e := Po.pos_append 256 (a.drop 17) (a.take 17)
      rw [List.take_append_drop, pos_all_zero (l := a.drop 17) (fun i => by rw [Sp.nth_drop]; exact h _ (by omega))] at e
      simpa using e
    · rw [List.take_of_length_le (by omega)]
  rw [h1, pos_take']
  have h2 := take_lt ha 16
  have h3 : 256 ^ 16 * Sp.nth a 16 ≤ 256 ^ 16 * 3 := Nat.mul_le_mul_left _ h16
  have h4 : Po.B ^ 5 = 256 ^ 16 * 4 := by decide
  rw [h4]
  omega
theorem high_at {a : List Nat} {i : Nat} (hi : 17 ≤ i) (hl : i < a.length) (h : 0 < Sp.nth a i) : 256 ^ 17 ≤ Po.pos 256 a := by
  have h1 := nth_last (b := 256) hl
  have h2 : 256 ^ i * 1 ≤ 256 ^ i * Sp.nth a i := Nat.mul_le_mul_left _ h
  have h3 : 256 ^ 17 ≤ 256 ^ i := Nat.pow_le_pow_right (by decide) hi
  omega
theorem high_16 {a : List Nat} (hl : 16 < a.length) (h : 3 < Sp.nth a 16) : Po.B ^ 5 ≤ Po.pos 256 a := by
  have h1 := nth_last (b := 256) hl
  have h2 : 256 ^ 16 * 4 ≤ 256 ^ 16 * Sp.nth a 16 := Nat.mul_le_mul_left _ h
  have h4 : Po.B ^ 5 = 256 ^ 16 * 4 := by decide
  rw [h4]
  omega
/-- What high answers. -/
def HighSays (a : List Nat) (e : Ending) : Prop := (e = .returned (.bool true) ∧ Po.B ^ 5 ≤ Po.pos 256 a) ∨ (e = .returned (.bool false) ∧ Po.pos 256 a < Po.B ^ 5)
theorem big17 : Po.B ^ 5 + 5 < 256 ^ 17 := by decide
set_option maxHeartbeats 1000000 in
theorem high_any (a : List Nat) (va : Value) (w : World) (hva : NumIs w va a) (ha : ∀ x ∈ a, x < 256) (hal : a.length ≤ 1000) :
    Calls Tryd.prog 106 #[va] w fun e w' => HighSays a e ∧ w' = w := by
  obtain ⟨pa, ca, rfl, hca, hra⟩ := hva
  have HRA : Hid (a ≠ [] → ∃ b o, pa = some ⟨b, o, none⟩ ∧ w.rangeAt b o (ints .i64 a)) := hra
  have HA : Hid (∀ x ∈ a, x < 256) := ha
  obtain ⟨la, hla⟩ : ∃ la, a.length = la := ⟨_, rfl⟩
  have HLA : Hid (a.length = la) := hla
  rw [hla] at hal hca ⊢
  clear hra ha hla
  go_enter Tryd.func106, Tryd.ntmps106
  go_wp2_with fail
  go_loopw [3] (fun u wr => ∃ i : Nat, 17 ≤ i ∧ (i ≤ la ∨ i = 17) ∧ u = .int .i64 i ∧ wr = w ∧ Hid (∀ j, 17 ≤ j → j < i → Sp.nth a j = 0)) (fun u _ => la - (intOf u).toNat)
  case atStart => exact ⟨17, by omega, .inr rfl, rfl, rfl, fun j _ _ => by omega⟩
  case round =>
    obtain ⟨i, hi, hil, rfl, rfl, HZ⟩ := hrel
    by_cases hlt : i < la
    · obtain ⟨ba, oa, rfl, hr1⟩ := HRA.out (by intro e; have := HLA.out; rw [e] at this; simp at this; omega)
      have c1 := range_cell hr1 i (by rw [HLA.out]; exact hlt)
      have g1 : (i : Int) < (la : Int) := by omega
      have i0 : (0 : Int) ≤ (i : Int) := by omega
      clear hr1
      by_cases hz : 0 < Sp.nth a i
      · have HH : Hid (Po.B ^ 5 ≤ Po.pos 256 a) := by
          have h1 := high_at hi (by rw [HLA.out]; exact hlt) hz
          have h2 := big17
          show _ ≤ _
          omega
        have hz' : (0 : Int) < ((Sp.nth a i : Nat) : Int) := by omega
        generalize Sp.nth a i = y at *
        go_wp2_with fail
        go_ret
        exact ⟨.inl ⟨rfl, HH.out⟩, rfl⟩
      · have hz0 : Sp.nth a i = 0 := by omega
        rw [hz0] at c1
        have HZ2 : Hid (∀ j, 17 ≤ j → j < i + 1 → Sp.nth a j = 0) := fun j h1 h2 => by
          by_cases h : j = i
          · rw [h]; exact hz0
          · exact HZ.out j h1 (by omega)
        clear hz hz0 HZ
        go_wp2_with fail
        go_roundw
        case rel => exact ⟨i + 1, by omega, .inl (by omega), by go_num, trivial, HZ2.out⟩
        case measure => simp [intOf]; omega
    · have g1 : ¬ (i : Int) < (la : Int) := by omega
      have HZA : Hid (∀ j, 17 ≤ j → Sp.nth a j = 0) := fun j h1 => by
        by_cases h : j < i
        · exact HZ.out j h1 h
        · exact nth_beyond (by rw [HLA.out]; omega)
      clear HZ
      by_cases h16 : 16 < la
      · obtain ⟨ba, oa, rfl, hr1⟩ := HRA.out (by intro e; have := HLA.out; rw [e] at this; simp at this; omega)
        have c1 := range_cell hr1 16 (by rw [HLA.out]; exact h16)
        have g2 : (16 : Int) < (la : Int) := by omega
        have x16 : Sp.nth a 16 < 256 := Sp.nth_lt (by decide) HA.out 16
        have HIF : Hid ((3 < Sp.nth a 16) ↔ Po.B ^ 5 ≤ Po.pos 256 a) := ⟨fun h => high_16 (by rw [HLA.out]; exact h16) h, fun h => by
          apply Decidable.byContradiction
          intro hn
          have := low_of HA.out HZA.out (by omega)
          omega⟩
        clear hr1 HZA
        generalize Sp.nth a 16 = y at *
        by_cases h3 : 3 < y
        · have h3' : (3 : Int) < (y : Int) := by omega
          go_wp2_with fail
          go_ret
          exact ⟨.inl ⟨rfl, HIF.out.1 h3⟩, rfl⟩
        · have h3' : ¬ (3 : Int) < (y : Int) := by omega
          go_wp2_with fail
          go_ret
          exact ⟨.inr ⟨rfl, Nat.lt_of_not_le fun h => h3 (HIF.out.2 h)⟩, rfl⟩
      · have g2 : ¬ (16 : Int) < (la : Int) := by omega
        have HNN : Hid (¬ Po.B ^ 5 ≤ Po.pos 256 a) := by
          have := low_of HA.out HZA.out (by rw [nth_beyond (by rw [HLA.out]; omega)]; omega)
          show ¬ _
          omega
        clear HZA
        go_wp2_with fail
        go_ret
        exact ⟨.inr ⟨rfl, Nat.lt_of_not_le HNN.out⟩, rfl⟩
end Go.Proofs.YtbblokikhocdfaaDoor.P4
/- The document's answer: number. -/
namespace Go.Proofs.YtbblokikhocdfaaDoor.P4
open Go.RowKit
set_option maxHeartbeats 1000000 in
theorem rnumber_any (l : List Nat) (p : Option Addr) (n c : Nat) (w : World) (hT : TextIs w p l) (hl : l.length = n) (hn : n ≤ 1000) :
    Calls Tryd.prog 86 #[.slice p n c] w fun e w' => ∃ v, e = .returned v ∧ w'.ownsRow w.heap.size 3 1 v n (ints .i64 l) ∧ Below w.heap.size w w' := by
  have HT : Hid (TextIs w p l) := hT
  have HL : Hid (l.length = n) := hl
  clear hT hl
  go_enter Tryd.func86, Tryd.ntmps86
  go_wp2_with fail
  go_loopw [3, 4] (fun sl u wr => ∃ i : Nat, i ≤ n ∧ u = .int .i64 i ∧ Hid (wr.ownsRow w.heap.size 3 1 sl i (ints .i64 (l.take i))) ∧ Hid (Below w.heap.size w wr)) (fun _ u _ => n - (intOf u).toNat)
  case atStart => exact ⟨0, by omega, rfl, own_none _ _ _ _, Below.refl _ _⟩
  case round =>
    obtain ⟨i, hi, rfl, HO, HW⟩ := hrel
    obtain ⟨q, cq, rfl⟩ := own_slice HO.out
    have hbn := HW.out.size
    by_cases hlt : i < n
    · obtain ⟨b, o, rfl, hr⟩ := HT.out.2 (by intro e; have := HL.out; rw [e] at this; simp at this; omega)
      have c1 := range_cell (rangeAt_below HW.out hr) i (by rw [HL.out]; exact hlt)
      have x1 : Sp.nth l i < 256 := Sp.nth_lt (by decide) HT.out.1 i
      have HTS : Hid (l.take (i + 1) = l.take i ++ [Sp.nth l i]) := Po.take_succ_nth (by rw [HL.out]; exact hlt)
      have g1 : (i : Int) < (n : Int) := by omega
      have i0 : (0 : Int) ≤ (i : Int) := by omega
      clear hr
      generalize Sp.nth l i = y at *
      go_wp2_with (first | with_reducible (refine stop_builtin .append ?_))
      refine Stop.go ?_
      have HO2 : Hid ((wr.alloc (Obj.cells #[.int .i64 (y : Int)] 3)).ownsRow w.heap.size 3 1 (.slice q i cq) i (ints .i64 (l.take i))) := ownsRow_alloc HO.out _
      have HW2 : Hid (Below w.heap.size w (wr.alloc (Obj.cells #[.int .i64 (y : Int)] 3))) := HW.out.alloc hbn _
      refine law_append_ints w.heap.size (.slice q i cq) i (l.take i) wr.heap.size 1 1 [y] rfl rfl rfl HO2.out (rangeAt_of_row (heap_alloc_new wr _)) (by omega) (by simp; omega) ?_
      intro v' w' hown' hg'
      have HO3 : Hid (w'.ownsRow w.heap.size 3 1 v' (i + 1) (ints .i64 (l.take (i + 1)))) := by
        rw [HTS.out]
        exact hown'
      have HW3 : Hid (Below w.heap.size w w') := below_grown' HW2.out hg' HO2.out (by simp; omega) (Nat.le_refl _)
      clear hown' hg' HO HW HO2 HW2 HTS
      go_wp2_with fail
      go_roundw
      case rel =>
        first
          | exact ⟨i + 1, by omega, by go_num, HO3.out, HW3.out⟩
          | ((repeat apply Exists.intro)
             refine ⟨⟨i + 1, by omega, ?_, HO3.out, HW3.out⟩, rfl⟩
             go_num)
      case measure => simp [intOf]; omega
    · obtain rfl : i = n := by omega
      have h1 := HO.out
      rw [List.take_of_length_le (by rw [HL.out]; exact Nat.le_refl _)] at h1
      have HO1 : Hid (wr.ownsRow w.heap.size 3 1 (.slice q i cq) i (ints .i64 l)) := h1
      clear h1 HO
      go_wp2_with fail
      go_ret
      exact ⟨_, rfl, HO1.out, HW.out⟩
/-- The number that a slice of ints holds. -/
def posSl (v : Value) (w : World) : Nat := match v with
  | .slice (some a) n _ => Po.pos 256 ((List.range n).map fun i => match w.cell? (a.add i) with
    | some u => (intOf u).toNat
    | none => 0)
  | _ => 0
theorem posSl_of {w : World} {v : Value} {l : List Nat} (h : NumIs w v l) : posSl v w = Po.pos 256 l := by
  obtain ⟨p, c, rfl, _, h1⟩ := h
  by_cases h0 : l = []
  · subst h0
    cases p <;> rfl
  · obtain ⟨b, o, rfl, hr⟩ := h1 h0
    show Po.pos 256 _ = _
    congr 1
    apply List.ext_getElem (by simp)
    intro i h2 h3
    have hc := range_cell hr i h3
    have e : (⟨b, o, none⟩ : Addr).add i = ⟨b, o + i, none⟩ := Addr.add_mid _ _ _
    simp only [List.getElem_map, List.getElem_range, e, hc]
    simp [intOf, Sp.nth, h3]
/-- A number without its last two bits, byte by byte. -/
def shr2 : List Nat → List Nat
  | [] => []
  | [x] => [x / 4]
  | x :: y :: l => (x / 4 + y % 4 * 64) :: shr2 (y :: l)
theorem shr2_length : ∀ l, (shr2 l).length = l.length
  | [] => rfl
  | [_] => rfl
  | x :: y :: l => by rw [shr2, List.length_cons, shr2_length (y :: l)]; rfl
theorem shr2_lt : ∀ {l : List Nat}, (∀ x ∈ l, x < 256) → ∀ x ∈ shr2 l, x < 256
  | [], _, x, h => by simp [shr2] at h
  | [y], h, x, hx => by
    have := h y (by simp)
    simp [shr2] at hx
    omega
  | y :: z :: l, h, x, hx => by
    rw [shr2] at hx
    rcases List.mem_cons.1 hx with rfl | hx
    · have := h y (by simp)
      omega
    · exact shr2_lt (fun u hu => h u (List.mem_cons_of_mem _ hu)) x hx
theorem shr2_pos : ∀ l x, 4 * Po.pos 256 (shr2 (x :: l)) + x % 4 = Po.pos 256 (x :: l)
  | [], x => by simp [shr2, Po.pos]; omega
  | y :: l, x => by
    have ih := shr2_pos l y
    rw [shr2, Po.pos, Po.pos, ← ih]
    omega
theorem shr2_nth : ∀ (l : List Nat) (i : Nat), i < l.length → Sp.nth (shr2 l) i = Sp.nth l i / 4 + Sp.nth l (i + 1) % 4 * 64
  | [], i, h => by simp at h
  | [x], 0, _ => by simp [shr2, Sp.nth]
  | [x], i + 1, h => by simp at h
  | x :: y :: l, 0, _ => by simp [shr2, Sp.nth]
  | x :: y :: l, i + 1, h => by
    have := shr2_nth (y :: l) i (by simpa using h)
    exact this
theorem split16 {a : List Nat} (hl : 16 < a.length) : Po.pos 256 a = Po.pos 256 (a.take 16 ++ [Sp.nth a 16 % 4]) + Po.B ^ 5 * Po.pos 256 (shr2 (a.drop 16)) := by
  have h1 := Po.pos_append 256 (a.drop 16) (a.take 16)
  rw [List.take_append_drop] at h1
  have hd : a.drop 16 = Sp.nth a 16 :: a.drop 17 := drop_nth hl
  have h2 := shr2_pos (a.drop 17) (Sp.nth a 16)
  rw [← hd] at h2
  have h3 : (a.take 16).length = 16 := by rw [List.length_take]; omega
  have h4 : Po.B ^ 5 = 256 ^ 16 * 4 := by decide
  rw [Po.pos_snoc, h1, h3, ← h2, h4, Nat.mul_add, Nat.mul_assoc]
  omega
end Go.Proofs.YtbblokikhocdfaaDoor.P4
/- The document's answer: less. -/
namespace Go.Proofs.YtbblokikhocdfaaDoor.P4
open Go.RowKit
theorem law_ints_from {ops : Array Oper} {rest : List Oper} {dst : Option Tmp} {T : TypeId} {pos : String} {after : Array Edge} {a : Act} {w : World} {Q : Exit → Act → World → Prop} {st xt : Tmp}
    (base : Nat) (v : Value) (n : Nat) (l : List Nat) (g of c : Nat) (m : Nat) (news : List Nat) (hs : a.eval (.tmp st) = v) (hx : a.eval (.tmp xt) = .slice (some ⟨g, of, none⟩) m c) (hm : news.length = m) (hown : w.ownsRow base 3 1 v n (ints .i64 l)) (hr : w.rangeAt g of (ints .i64 news))
    (hn : n + m ≤ 100000) (hbase : base ≤ w.heap.size)
    (h : ∀ v' w', w'.ownsRow base 3 1 v' (n + m) (ints .i64 (l ++ news)) → w.grownBy w' v.ownBlock → wpList Tryd.prog ops Q rest (a.put dst v') w') :
    wpList Tryd.prog ops Q ({ dst := dst, op := .call { callee := .builtin .append, args := #[.tmp st, .tmp xt], argTypes := #[83, 83] }, type := T, pos := pos, after := after, guard := none } :: rest) a w := by
  obtain ⟨i, hi, hsz, hby, hz⟩ := info3e
  refine wpList_append_own _ rfl (.tmp st) (.tmp xt) 83 rfl base 3 i _ 1 8 Tryd.underlying83 hi hz hsz hby rfl (by decide) v n (ints .i64 l) hs hown ⟨g, of, none⟩ m c (ints .i64 news) hx (by rw [ints_length]; omega) (fun j u hu => by rw [Addr.add_mid]; exact hr j u hu) (fun u hu => by obtain ⟨q, _, rfl⟩ := List.mem_map.1 hu; rfl) (by unfold maxLen; omega) (by omega) hbase (fun v' w' h1 h2 _ => h v' w' (by rw [ints_append]; exact h1) h2)
theorem own_int_lit {w : World} {base : Nat} (l : List Nat) (hb : base ≤ w.heap.size) (hn : l.length ≤ 100000) : (w.alloc (.cells (arr .i64 l) 3)).ownsRow base 3 1 (.slice (some ⟨w.heap.size, 0, none⟩) l.length l.length) l.length (ints .i64 l) := by
  refine ⟨by rw [ints_length]; simp, .inr ⟨w.heap.size, l.length, _, rfl, hb, heap_alloc_new w _, Nat.le_refl _, by unfold maxLen; omega, by rw [arr_size]; simp, ?_⟩⟩
  rw [arr_list, List.take_of_length_le (by rw [ints_length]; simp)]
theorem range_take_i {w : World} {b o : Nat} {l : List Nat} (h : w.rangeAt b o (ints .i64 l)) (n : Nat) : w.rangeAt b o (ints .i64 (l.take n)) := fun j v hv => by
  apply h j v
  have hj := (List.getElem?_eq_some_iff.1 hv).1
  simp only [ints, List.length_map, List.length_take] at hj
  simp only [ints, List.map_take] at hv ⊢
  rw [List.getElem?_take_of_lt (by omega)] at hv
  exact hv
/-- What less leaves: the same rest, and less than 2^130. -/
structure Lessed (a out : List Nat) : Prop where
  small : ∀ x ∈ out, x < 256
  same : Po.pos 256 out % Po.P = Po.pos 256 a % Po.P
  len : out.length ≤ max a.length 18
theorem lessed_step {a a1 low up t out : List Nat} (h : Lessed a a1) (h16 : 16 < a1.length) (hlow : low = a1.take 16 ++ [Sp.nth a1 16 % 4]) (hup : up = shr2 (a1.drop 16)) (ht : Po.pos 256 t = Po.pos 256 up * Po.pos 256 [5]) (htl : t.length = up.length + 1 + 1) (ho : Added low t out) : Lessed a out where
  small := ho.small
  same := by
    have e1 := split16 h16
    rw [← hlow, ← hup] at e1
    rw [← h.same, e1, ho.val, ht, Nat.mul_comm (Po.B ^ 5), Po.fold_mod]
    congr 1
    simp [Po.pos]
    omega
  len := by
    have h1 := h.len
    have h2 := ho.up
    have h3 : low.length = 17 := by rw [hlow]; simp; omega
    have h4 : up.length = a1.length - 16 := by rw [hup, shr2_length, List.length_drop]
    rw [h3, htl, h4] at h2
    omega
theorem lessed_less {a1 low up t out : List Nat} (h16 : 16 < a1.length) (hhi : Po.B ^ 5 ≤ Po.pos 256 a1) (ha1 : ∀ x ∈ a1, x < 256) (hlow : low = a1.take 16 ++ [Sp.nth a1 16 % 4]) (hup : up = shr2 (a1.drop 16)) (ht : Po.pos 256 t = Po.pos 256 up * Po.pos 256 [5]) (ho : Added low t out) : Po.pos 256 out < Po.pos 256 a1 := by
  have e1 := split16 h16
  rw [← hlow, ← hup] at e1
  rw [ho.val, ht]
  have h5 : Po.pos 256 [5] = 5 := by decide
  rw [h5]
  have hlt : Po.pos 256 low < Po.B ^ 5 := by
    have h2 : (a1.take 16).length = 16 := by rw [List.length_take]; omega
    rw [hlow, Po.pos_snoc, h2]
    have h3 := take_lt ha1 16
    have h4 : Po.B ^ 5 = 256 ^ 16 * 4 := by decide
    have h6 : 256 ^ 16 * (Sp.nth a1 16 % 4) ≤ 256 ^ 16 * 3 := Nat.mul_le_mul_left _ (by omega)
    rw [h4]
    omega
  have hu : 0 < Po.pos 256 up := by
    rcases Nat.eq_zero_or_pos (Po.pos 256 up) with h | h
    · rw [h, Nat.mul_zero] at e1
      omega
    · exact h
  rw [e1]
  have h7 : Po.B ^ 5 = 1361129467683753853853498429727072845824 := by decide
  rw [h7]
  omega
set_option maxHeartbeats 2000000 in
theorem less_any (a : List Nat) (va : Value) (w : World) (hva : NumIs w va a) (ha : ∀ x ∈ a, x < 256) (hal : a.length ≤ 900) :
    Calls Tryd.prog 105 #[va] w fun e w' => ∃ v out, e = .returned v ∧ NumIs w' v out ∧ Lessed a out ∧ Po.pos 256 out < Po.B ^ 5 ∧ Below w.heap.size w w' := by
  have HVA : Hid (NumIs w va a) := hva
  have HL0 : Hid (Lessed a a) := ⟨ha, rfl, by omega⟩
  clear hva ha
  go_enter Tryd.func105, Tryd.ntmps105
  go_wp2_with fail
  go_loopw [0] (fun v wr => ∃ a1 : List Nat, Hid (NumIs wr v a1) ∧ Hid (Lessed a a1) ∧ Hid (Below w.heap.size w wr)) (fun v wr => posSl v wr)
  case atStart => exact ⟨a, HVA.out, HL0.out, Below.refl _ _⟩
  case round =>
    clear HVA HL0
    obtain ⟨a1, HN1, HL1, HW1⟩ := hrel
    have HM1 : Hid (posSl u0 wr = Po.pos 256 a1) := posSl_of HN1.out
    have hl1 : a1.length ≤ 900 := by have := HL1.out.len; omega
    have hhi := high_any a1 u0 wr HN1.out HL1.out.small (by omega)
    obtain ⟨p1, c1, rfl, hc1, hr1⟩ := HN1.out
    have HR1 : Hid (a1 ≠ [] → ∃ b o, p1 = some ⟨b, o, none⟩ ∧ wr.rangeAt b o (ints .i64 a1)) := hr1
    obtain ⟨la, hla⟩ : ∃ la, a1.length = la := ⟨_, rfl⟩
    rw [hla] at hhi hc1 hl1 HN1 HM1 ⊢
    have HLA : Hid (a1.length = la) := hla
    clear hr1 hla
    go_wp2_with fail
    refine hhi.mono ?_
    rintro e w2 ⟨hs, rfl⟩
    clear hhi
    rcases hs with ⟨rfl, hbig⟩ | ⟨rfl, hsmall⟩
    · have h16 : 16 < la := by
        apply Decidable.byContradiction
        intro hn
        have h1 := Po.pos_lt (b := 256) (by decide) HL1.out.small
        have h2 : 256 ^ a1.length ≤ 256 ^ 16 := Nat.pow_le_pow_right (by decide) (by rw [HLA.out]; omega)
        have h3 := pow16
        omega
      have HBG : Hid (Po.B ^ 5 ≤ Po.pos 256 a1) := hbig
      clear hbig
      obtain ⟨b1, o1, rfl, hra⟩ := HR1.out (by intro e; have := HLA.out; rw [e] at this; simp at this; omega)
      have HRA : Hid (w2.rangeAt b1 o1 (ints .i64 a1)) := hra
      have x16 : Sp.nth a1 16 < 256 := Sp.nth_lt (by decide) HL1.out.small 16
      clear hra HR1 HN1
      have k16 : (16 : Int) < (la : Int) := by omega
      have k17 : (16 : Int) ≤ (c1 : Int) := by omega
      go_wp2_with (first | with_reducible (refine stop_builtin .append ?_))
      refine Stop.go ?_
      have hs0 := HW1.out.size
      have hbE : Below w2.heap.size w2 (w2.alloc (Obj.cells #[] 3)) := (Below.refl _ _).alloc (Nat.le_refl _) _
      have hO0 : (w2.alloc (Obj.cells #[] 3)).ownsRow w2.heap.size 3 1 (.slice (some ⟨w2.heap.size, 0, none⟩) 0 0) 0 (ints .i64 []) := own_int_lit [] (Nat.le_refl _) (by decide)
      refine law_ints_from w2.heap.size (.slice (some ⟨w2.heap.size, 0, none⟩) 0 0) 0 [] b1 o1 c1 16 (a1.take 16) rfl rfl (by rw [List.length_take, HLA.out]; omega) hO0 (rangeAt_below hbE (range_take_i HRA.out 16)) (by omega) (by simp) ?_
      intro v3 w3 ho3 hg3
      have hb3 : Below w2.heap.size w2 w3 := hbE.trans (below_grown' (Below.refl _ _) hg3 hO0 (by simp) (Nat.le_refl _))
      rw [Nat.zero_add, List.nil_append] at ho3
      have HO3 : Hid (w3.ownsRow w2.heap.size 3 1 v3 16 (ints .i64 (a1.take 16))) := ho3
      have HB3 : Hid (Below w2.heap.size w2 w3) := hb3
      have hs3 := hb3.size
      clear ho3 hg3 hb3 hO0 hbE
      obtain ⟨q3, cq3, rfl⟩ := own_slice HO3.out
      have cc := range_cell (rangeAt_below HB3.out HRA.out) 16 (by rw [HLA.out]; exact h16)
      have m16 : ((Sp.nth a1 16 : Nat) : Int).tmod 4 = ((Sp.nth a1 16 % 4 : Nat) : Int) := by rw [Int.tmod_eq_emod_of_nonneg (by omega)]; omega
      obtain ⟨low, hlow⟩ : ∃ low, low = a1.take 16 ++ [Sp.nth a1 16 % 4] := ⟨_, rfl⟩
      have HZL : Hid (low = a1.take 16 ++ [Sp.nth a1 16 % 4]) := hlow
      obtain ⟨z4, hz4⟩ : ∃ z4, Sp.nth a1 16 % 4 = z4 := ⟨_, rfl⟩
      have hz44 : z4 < 4 := by omega
      rw [hz4] at hlow m16
      have HLOW : Hid (low = a1.take 16 ++ [z4]) := hlow
      clear hlow hz4
      generalize Sp.nth a1 16 = y16 at cc m16 x16
      go_wp2_with (first | with_reducible (refine stop_builtin .append ?_))
      refine Stop.go ?_
      have hO4 : (w3.alloc (Obj.cells #[.int .i64 (z4 : Int)] 3)).ownsRow w2.heap.size 3 1 (.slice q3 16 cq3) 16 (ints .i64 (a1.take 16)) := ownsRow_alloc HO3.out _
      refine law_ints_from w2.heap.size (.slice q3 16 cq3) 16 (a1.take 16) w3.heap.size 0 1 1 [z4] rfl rfl rfl hO4 (rangeAt_of_row (heap_alloc_new w3 _)) (by omega) (by simp; omega) ?_
      intro v4 w4 ho4 hg4
      have hb4 : Below w2.heap.size w2 w4 := (HB3.out.alloc hs3 _).trans (below_grown' (Below.refl _ _) hg4 hO4 (by simp; omega) (Nat.le_refl _))
      rw [← HLOW.out] at ho4
      have HN4 : Hid (NumIs w4 v4 low) := own_num ho4
      have HB4 : Hid (Below w2.heap.size w2 w4) := hb4
      have HRA4 : Hid (w4.rangeAt b1 o1 (ints .i64 a1)) := rangeAt_below hb4 HRA.out
      have hs4 := hb4.size
      clear ho4 hg4 hb4 hO4 HO3 HB3 cc m16 HRA
      obtain ⟨up, hup⟩ : ∃ up, up = shr2 (a1.drop 16) := ⟨_, rfl⟩
      have HUP : Hid (up = shr2 (a1.drop 16)) := hup
      have HUL : Hid (up.length = la - 16) := by
        show _ = _
        rw [hup, shr2_length, List.length_drop, HLA.out]
      have HUN : Hid (∀ j, 16 + j < la → Sp.nth up j = Sp.nth a1 (16 + j) / 4 + Sp.nth a1 (16 + j + 1) % 4 * 64) := fun j hj => by
        rw [hup, shr2_nth _ _ (by rw [List.length_drop, HLA.out]; omega), Sp.nth_drop, Sp.nth_drop]
        rfl
      have HUB : Hid (∀ x ∈ up, x < 256) := by
        show ∀ x ∈ up, x < 256
        rw [hup]
        exact shr2_lt (lt_drop HL1.out.small 16)
      clear hup
      go_wp2_with fail
      go_loopw [4, 5] (fun sl u wr => ∃ j : Nat, 16 + j ≤ la ∧ u = .int .i64 ((16 + j : Nat) : Int) ∧ Hid (wr.ownsRow w4.heap.size 3 1 sl j (ints .i64 (up.take j))) ∧ Hid (Below w4.heap.size w4 wr)) (fun _ u _ => la - (intOf u).toNat)
      case atStart => exact ⟨0, by omega, rfl, own_none _ _ _ _, Below.refl _ _⟩
      case round =>
        obtain ⟨j, hj, rfl, HO, HW⟩ := hrel
        obtain ⟨q, cq, rfl⟩ := own_slice HO.out
        have hbn := HW.out.size
        by_cases hlt : 16 + j < la
        · obtain ⟨i, hi⟩ : ∃ i, 16 + j = i := ⟨_, rfl⟩
          have HI : Hid (16 + j = i) := hi
          have hun := HUN.out j hlt
          have HTS : Hid (up.take (j + 1) = up.take j ++ [Sp.nth up j]) := Po.take_succ_nth (by rw [HUL.out]; omega)
          rw [hi] at hun hlt ⊢
          have ci := range_cell (rangeAt_below HW.out HRA4.out) i (by rw [HLA.out]; exact hlt)
          have xi : Sp.nth a1 i < 256 := Sp.nth_lt (by decide) HL1.out.small i
          have g1 : (i : Int) < (la : Int) := by omega
          have i0 : (0 : Int) ≤ (i : Int) := by omega
          have d1 : ((Sp.nth a1 i : Nat) : Int).tdiv 4 = ((Sp.nth a1 i / 4 : Nat) : Int) := by rw [Int.tdiv_eq_ediv_of_nonneg (by omega)]; omega
          by_cases hlast : i + 1 < la
          · have ci1 := range_cell (rangeAt_below HW.out HRA4.out) (i + 1) (by rw [HLA.out]; exact hlast)
            have g2 : (i : Int) + 1 < (la : Int) := by omega
            have t2 : ((i : Int) + 1).toNat = i + 1 := by omega
            have m1 : ((Sp.nth a1 (i + 1) : Nat) : Int).tmod 4 = ((Sp.nth a1 (i + 1) % 4 : Nat) : Int) := by rw [Int.tmod_eq_emod_of_nonneg (by omega)]; omega
            have b1' : Sp.nth a1 i / 4 ≤ 63 := by omega
            have b2' : Sp.nth a1 (i + 1) % 4 ≤ 3 := by omega
            generalize Sp.nth a1 (i + 1) % 4 = r4 at *
            generalize Sp.nth a1 i / 4 = q4 at *
            generalize Sp.nth a1 (i + 1) = y1 at *
            generalize Sp.nth a1 i = y0 at *
            generalize Sp.nth up j = uj at *
            have e3 : (q4 : Int) + (r4 : Int) * 64 = (uj : Int) := by omega
            clear hun hi
            go_wp2_with (first | with_reducible (refine stop_builtin .append ?_))
            refine Stop.go ?_
            have HO2 : Hid ((wr.alloc (Obj.cells #[.int .i64 (uj : Int)] 3)).ownsRow w4.heap.size 3 1 (.slice q j cq) j (ints .i64 (up.take j))) := ownsRow_alloc HO.out _
            have HW2 : Hid (Below w4.heap.size w4 (wr.alloc (Obj.cells #[.int .i64 (uj : Int)] 3))) := HW.out.alloc hbn _
            refine law_ints_from w4.heap.size (.slice q j cq) j (up.take j) wr.heap.size 0 1 1 [uj] rfl rfl rfl HO2.out (rangeAt_of_row (heap_alloc_new wr _)) (by omega) (by simp; omega) ?_
            intro v' w' hown' hg'
            have HO5 : Hid (w'.ownsRow w4.heap.size 3 1 v' (j + 1) (ints .i64 (up.take (j + 1)))) := by
              rw [HTS.out]
              exact hown'
            have HW5 : Hid (Below w4.heap.size w4 w') := below_grown' HW2.out hg' HO2.out (by simp; omega) (Nat.le_refl _)
            clear hown' hg' HO HW HO2 HW2 HTS ci ci1
            go_wp2_with fail
            go_roundw
            case rel =>
              first
                | exact ⟨j + 1, (by have := HI.out; omega), (by have := HI.out; go_num), HO5.out, HW5.out⟩
                | ((repeat apply Exists.intro)
                   refine ⟨⟨j + 1, (by have := HI.out; omega), ?_, HO5.out, HW5.out⟩, rfl⟩
                   have := HI.out
                   go_num)
            case measure => have := HI.out; simp [intOf]; omega
          · have g2 : ¬ (i : Int) + 1 < (la : Int) := by omega
            have hz : Sp.nth a1 (i + 1) = 0 := nth_beyond (by rw [HLA.out]; omega)
            rw [hz] at hun
            have b1' : Sp.nth a1 i / 4 ≤ 63 := by omega
            generalize Sp.nth a1 i / 4 = q4 at *
            generalize Sp.nth a1 i = y0 at *
            generalize Sp.nth up j = uj at *
            obtain rfl : uj = q4 := by omega
            clear hun hi hz
            go_wp2_with (first | with_reducible (refine stop_builtin .append ?_))
            refine Stop.go ?_
            have HO2 : Hid ((wr.alloc (Obj.cells #[.int .i64 (uj : Int)] 3)).ownsRow w4.heap.size 3 1 (.slice q j cq) j (ints .i64 (up.take j))) := ownsRow_alloc HO.out _
            have HW2 : Hid (Below w4.heap.size w4 (wr.alloc (Obj.cells #[.int .i64 (uj : Int)] 3))) := HW.out.alloc hbn _
            refine law_ints_from w4.heap.size (.slice q j cq) j (up.take j) wr.heap.size 0 1 1 [uj] rfl rfl rfl HO2.out (rangeAt_of_row (heap_alloc_new wr _)) (by omega) (by simp; omega) ?_
            intro v' w' hown' hg'
            have HO5 : Hid (w'.ownsRow w4.heap.size 3 1 v' (j + 1) (ints .i64 (up.take (j + 1)))) := by
              rw [HTS.out]
              exact hown'
            have HW5 : Hid (Below w4.heap.size w4 w') := below_grown' HW2.out hg' HO2.out (by simp; omega) (Nat.le_refl _)
            clear hown' hg' HO HW HO2 HW2 HTS ci
            go_wp2_with fail
            go_roundw
            case rel =>
              first
                | exact ⟨j + 1, (by have := HI.out; omega), (by have := HI.out; go_num), HO5.out, HW5.out⟩
                | ((repeat apply Exists.intro)
                   refine ⟨⟨j + 1, (by have := HI.out; omega), ?_, HO5.out, HW5.out⟩, rfl⟩
                   have := HI.out
                   go_num)
            case measure => have := HI.out; simp [intOf]; omega
        · have g1 : ¬ ((16 + j : Nat) : Int) < (la : Int) := by omega
          have hjl : j = up.length := by rw [HUL.out]; omega
          have h1 := HO.out
          rw [hjl, List.take_length, ← hjl] at h1
          have HNU : Hid (NumIs wr (.slice q j cq) up) := own_num h1
          have HNL : Hid (NumIs wr v4 low) := HN4.out.below HW.out
          have HWA : Hid (Below w.heap.size w wr) := HW1.out.trans ((HB4.out.trans (HW.out.mono hs4)).mono hs0)
          clear h1 hjl HO HW HN4 HB4 HRA4
          generalize ((16 + j : Nat) : Int) = ij at *
          go_wp2_with fail
          have hb5 : Below wr.heap.size wr (wr.alloc (Obj.cells (arr .i64 [5]) 3)) := (Below.refl _ _).alloc (Nat.le_refl _) _
          have h5N : NumIs (wr.alloc (Obj.cells (arr .i64 [5]) 3)) (.slice (some ⟨wr.heap.size, 0, none⟩) 1 1) [5] := own_num (own_int_lit (base := 0) [5] (by omega) (by decide))
          refine (rtimes_any up [5] (.slice q j cq) _ _ (HNU.out.below hb5) h5N HUB.out (by decide) (by rw [HUL.out]; omega) (by decide)).mono ?_
          rintro e w6 ⟨vt, t, rfl, hnt, htl, htb, htv, hb6⟩
          have HNT : Hid (NumIs w6 vt t) := hnt
          have HTB : Hid (∀ x ∈ t, x < 256) := htb
          have HTL : Hid (t.length = up.length + 1 + 1) := htl
          have HTV : Hid (Po.pos 256 t = Po.pos 256 up * Po.pos 256 [5]) := htv
          have hb56 : Below wr.heap.size wr w6 := hb5.trans (hb6.mono hb5.size)
          have HNL6 : Hid (NumIs w6 v4 low) := HNL.out.below hb56
          have HW6 : Hid (Below w.heap.size w w6) := HWA.out.trans (hb56.mono HWA.out.size)
          have HLL : Hid (low.length ≤ 1000) := by
            show _ ≤ _
            rw [HLOW.out]
            simp
            omega
          have HLB : Hid (∀ x ∈ low, x < 256) := by
            show ∀ x ∈ low, x < 256
            rw [HLOW.out]
            intro x hx
            rcases List.mem_append.1 hx with h | h
            · exact HL1.out.small x (List.mem_of_mem_take h)
            · rw [List.mem_singleton.1 h]; omega
          clear hnt htb htl htv hb5 hb6 hb56 h5N HNU HNL HWA
          go_wp2_with fail
          refine (add_any low t v4 vt w6 HNL6.out HNT.out HLB.out HTB.out HLL.out (by rw [HTL.out, HUL.out]; omega)).mono ?_
          rintro e w7 ⟨v7, out, rfl, hadd, ho7, hb7⟩
          have HN7 : Hid (NumIs w7 v7 out) := own_num ho7
          have HW7 : Hid (Below w.heap.size w w7) := HW6.out.trans (hb7.mono HW6.out.size)
          have HL7 : Hid (Lessed a out) := lessed_step HL1.out (by rw [HLA.out]; exact h16) HZL.out HUP.out HTV.out HTL.out hadd
          have HLT : Hid (Po.pos 256 out < Po.pos 256 a1) := lessed_less (by rw [HLA.out]; exact h16) HBG.out HL1.out.small HZL.out HUP.out HTV.out hadd
          clear hadd ho7 hb7 HNT HTB HTL HTV HNL6 HW6 HLL HLB
          go_wp2_with fail
          go_roundw
          case rel =>
            first
              | exact ⟨out, HN7.out, HL7.out, HW7.out⟩
              | ((repeat apply Exists.intro)
                 exact ⟨⟨out, HN7.out, HL7.out, HW7.out⟩, rfl⟩)
          case measure =>
            have h1 := posSl_of HN7.out
            have h2 := HM1.out
            have h3 := HLT.out
            rw [← h1, ← h2] at h3
            exact h3
    · have HSM : Hid (Po.pos 256 a1 < Po.B ^ 5) := hsmall
      clear hsmall HR1
      go_wp2_with fail
      go_ret
      first
        | exact ⟨_, rfl, a1, HN1.out, HL1.out, HSM.out, HW1.out⟩
        | exact ⟨_, a1, rfl, HN1.out, HL1.out, HSM.out, HW1.out⟩
end Go.Proofs.YtbblokikhocdfaaDoor.P4
/- The document's answer: least. -/
namespace Go.Proofs.YtbblokikhocdfaaDoor.P4
open Go.RowKit
theorem own_there {w : World} {base n : Nat} {g c : Nat} {k : IntKind} {e : TypeId} {l : List Nat} (h : w.ownsRow base e 1 (.slice (some ⟨g, 0, none⟩) n c) n (ints k l)) : w.there g 0 n ∧ base ≤ g := by
  obtain ⟨hl, ⟨h0, _⟩ | ⟨g', cap, cur, hv, hg, hh, hn, hm, hc, ht⟩⟩ := h
  · cases h0
  · cases hv
    exact ⟨there_of_row hh n (by omega), hg⟩
theorem b16_four {b : List Nat} (hb : ∀ x ∈ b, x < 256) (h1 : Po.B ^ 5 ≤ Po.pos 256 b) (h2 : Po.pos 256 b < Po.B ^ 5 + 5) : 4 ≤ Sp.nth b 16 ∧ 16 < b.length := by
  have hz : ∀ i, 17 ≤ i → Sp.nth b i = 0 := fun i hi => by
    rcases Nat.eq_zero_or_pos (Sp.nth b i) with h | h
    · exact h
    · have hl : i < b.length := by
        apply Decidable.byContradiction
        intro hn
        rw [nth_beyond (by omega)] at h
        omega
      have := high_at hi hl h
      have := big17
      omega
  have h4 : 4 ≤ Sp.nth b 16 := by
    apply Decidable.byContradiction
    intro hn
    have := low_of hb hz (by omega)
    omega
  refine ⟨h4, ?_⟩
  apply Decidable.byContradiction
  intro hn
  rw [nth_beyond (by omega)] at h4
  omega
structure Leasted (a out : List Nat) : Prop where
  small : ∀ x ∈ out, x < 256
  val : Po.pos 256 out = Po.pos 256 a % Po.P
  len : out.length ≤ max a.length 18 + 1
set_option maxHeartbeats 1000000 in
theorem rleast_any (a : List Nat) (va : Value) (w : World) (hva : NumIs w va a) (ha : ∀ x ∈ a, x < 256) (hal : a.length ≤ 900) :
    Calls Tryd.prog 87 #[va] w fun e w' => ∃ v out, e = .returned v ∧ NumIs w' v out ∧ Leasted a out ∧ Below w.heap.size w w' := by
  have HC := less_any a va w hva ha hal
  clear hva ha
  go_enter Tryd.func87, Tryd.ntmps87
  go_wp2_with fail
  refine HC.mono ?_
  rintro e w1 ⟨v1, a1, rfl, hn1, hl1, hs1, hb1⟩
  clear HC
  have HN1 : Hid (NumIs w1 v1 a1) := hn1
  have HL1 : Hid (Lessed a a1) := hl1
  have HS1 : Hid (Po.pos 256 a1 < Po.B ^ 5) := hs1
  have HB1 : Hid (Below w.heap.size w w1) := hb1
  have hlen := hl1.len
  clear hn1 hl1 hs1 hb1
  go_wp2_with fail
  have hb5 : Below w1.heap.size w1 (w1.alloc (Obj.cells (arr .i64 [5]) 3)) := (Below.refl _ _).alloc (Nat.le_refl _) _
  have h5N : NumIs (w1.alloc (Obj.cells (arr .i64 [5]) 3)) (.slice (some ⟨w1.heap.size, 0, none⟩) 1 1) [5] := own_num (own_int_lit (base := 0) [5] (by omega) (by decide))
  refine (add_any a1 [5] v1 _ _ (HN1.out.below hb5) h5N HL1.out.small (by decide) (by omega) (by decide)).mono ?_
  rintro e w2 ⟨v2, b, rfl, hadd, ho2, hb2⟩
  have hbb : Below w1.heap.size w1 w2 := hb5.trans (hb2.mono hb5.size)
  have HN2 : Hid (NumIs w2 v1 a1) := HN1.out.below hbb
  have HB2 : Hid (Below w.heap.size w w2) := HB1.out.trans (hbb.mono HB1.out.size)
  have HAD : Hid (Added a1 [5] b) := hadd
  have hs12 := HB1.out.size
  have ho2' : w2.ownsRow w.heap.size 3 1 v2 b.length (ints .i64 b) := own_base ho2 (by simp; omega)
  have HO2 : Hid (w2.ownsRow w.heap.size 3 1 v2 b.length (ints .i64 b)) := ho2'
  have hbl : b.length ≤ max a.length 18 + 1 := by
    have h1 := hadd.up
    have h2 : ([5] : List Nat).length = 1 := rfl
    rw [h2] at h1
    omega
  have hbv : Po.pos 256 b = Po.pos 256 a1 + 5 := by
    have h1 := hadd.val
    have h2 : Po.pos 256 [5] = 5 := by decide
    rw [h2] at h1
    exact h1
  have HBV : Hid (Po.pos 256 b = Po.pos 256 a1 + 5) := hbv
  have hhi := high_any b v2 w2 (own_num ho2') hadd.small (by omega)
  clear hb5 h5N hadd ho2 hb2 hbb HN1 HB1 hbv ho2'
  go_wp2_with fail
  refine hhi.mono ?_
  rintro e w3 ⟨hs, rfl⟩
  clear hhi
  rcases hs with ⟨rfl, hbig⟩ | ⟨rfl, hsmall⟩
  · obtain ⟨h4, h16⟩ := b16_four HAD.out.small hbig (by have := HBV.out; have := HS1.out; omega)
    obtain ⟨g, c, rfl, hgb, hgl, hcl, hr⟩ := own_cell HO2.out (by omega)
    obtain ⟨hth, _⟩ := own_there HO2.out
    have c16 := range_cell hr 16 h16
    rw [Nat.zero_add] at c16
    have f16 := (hth 16 h16).2
    rw [Nat.zero_add] at f16
    have HRN : Hid ((w3.setCell ⟨g, 16, none⟩ (.int .i64 ((Sp.nth b 16 - 4 : Nat) : Int))).rangeAt g 0 (ints .i64 (b.set 16 (Sp.nth b 16 - 4)))) := rangeAt_set hr hth 16 _ h16
    have HBN : Hid (Below w.heap.size w (w3.setCell ⟨g, 16, none⟩ (.int .i64 ((Sp.nth b 16 - 4 : Nat) : Int)))) := HB2.out.setCell hgb _
    have x16 : Sp.nth b 16 < 256 := Sp.nth_lt (by decide) HAD.out.small 16
    have HLE : Hid (Leasted a (b.set 16 (Sp.nth b 16 - 4))) := by
      refine ⟨fun x hx => ?_, ?_, by rw [List.length_set]; exact hbl⟩
      · rcases List.mem_or_eq_of_mem_set hx with h | rfl
        · exact HAD.out.small x h
        · omega
      · have h1 := pos_lower (b := 256) (l := b) (i := 16) (u := Sp.nth b 16 - 4) (d := 4) h16 (by omega)
        have h2 := HBV.out
        have h3 := HS1.out
        have h5 : Po.B ^ 5 = 256 ^ 16 * 4 := by decide
        have h6 := mod_once h3 (by rw [← h2]; exact hbig)
        rw [← HL1.out.same, ← h6, h5]
        omega
    have HBLN : Hid ((b.set 16 (Sp.nth b 16 - 4)).length = b.length) := List.length_set
    clear hr hth hgl HAD HBV HO2
    generalize b.set 16 (Sp.nth b 16 - 4) = out at *
    have e1 : ((Sp.nth b 16 - 4 : Nat) : Int) = ((Sp.nth b 16 : Nat) : Int) - 4 := by omega
    rw [e1] at HRN HBN
    generalize Sp.nth b 16 = y at *
    generalize b.length = lb at *
    have k16 : (16 : Int) < (lb : Int) := by omega
    clear e1
    go_wp2_with fail
    go_ret
    have hN : NumIs (w3.setCell ⟨g, 16, none⟩ (.int .i64 ((y : Int) - 4))) (.slice (some ⟨g, 0, none⟩) lb c) out := ⟨_, c, by rw [HBLN.out], by rw [HBLN.out]; omega, fun _ => ⟨g, 0, rfl, HRN.out⟩⟩
    first
      | exact ⟨_, rfl, out, hN, HLE.out, HBN.out⟩
      | exact ⟨_, out, rfl, hN, HLE.out, HBN.out⟩
  · have HLE : Hid (Leasted a a1) := by
      refine ⟨HL1.out.small, ?_, by omega⟩
      rw [← HL1.out.same]
      have h2 := HBV.out
      rw [h2, Po.B5] at hsmall
      exact (Nat.mod_eq_of_lt (by omega)).symm
    clear hsmall HAD HBV HO2
    go_wp2_with fail
    go_ret
    first
      | exact ⟨_, rfl, a1, HN2.out, HLE.out, HB2.out⟩
      | exact ⟨_, a1, rfl, HN2.out, HLE.out, HB2.out⟩
end Go.Proofs.YtbblokikhocdfaaDoor.P4
/- The document's answer: Tag. -/
namespace Go.Proofs.YtbblokikhocdfaaDoor.P4
open Go.RowKit
theorem digit_of {l : List Nat} (h : ∀ x ∈ l, x < 256) (i : Nat) : Po.pos 256 l / 256 ^ i % 256 = Sp.nth l i := by
  have h1 := sum_byte l [] i
  have h2 : car l [] i = 0 := by
    unfold car
    apply Nat.div_eq_of_lt
    have := take_lt h i
    simpa [Po.pos] using this
  have h3 : Sp.nth ([] : List Nat) i = 0 := rfl
  rw [h2, h3] at h1
  have h4 : Sp.nth l i < 256 := Sp.nth_lt (by decide) h i
  simp only [Po.pos, Nat.add_zero, Nat.zero_add] at h1
  rw [h1, Nat.mod_eq_of_lt h4]
/-- A row of numbers that may be written, at the beginning of a block. -/
structure RR (w : World) (g : Nat) (l : List Nat) : Prop where
  range : w.rangeAt g 0 (ints .i64 l)
  there_ : w.there g 0 l.length
theorem RR.cell {w : World} {g : Nat} {l : List Nat} (h : RR w g l) (i : Nat) (hi : i < l.length) : w.cell? ⟨g, i, none⟩ = some (.int .i64 (Sp.nth l i : Nat)) := by
  have := range_cell h.range i hi
  rwa [Nat.zero_add] at this
theorem RR.may {w : World} {g : Nat} {l : List Nat} (h : RR w g l) (i : Nat) (hi : i < l.length) : w.frozen? ⟨g, i, none⟩ = false := by
  have := (h.there_ i hi).2
  rwa [Nat.zero_add] at this
theorem RR.set {w : World} {g : Nat} {l : List Nat} (h : RR w g l) (i x : Nat) (hi : i < l.length) : RR (w.setCell ⟨g, i, none⟩ (.int .i64 (x : Nat))) g (l.set i x) :=
  ⟨rangeAt_set h.range h.there_ i x hi, by rw [List.length_set]; exact there_set h.there_ i⟩
theorem RR.lt {w : World} {g : Nat} {l : List Nat} (h : RR w g l) (hl : 0 < l.length) : g < w.heap.size := range_lt h.range hl
set_option maxHeartbeats 2000000 in
theorem rtag_any (key text : List Nat) (bk ok ck n ct : Nat) (pt : Option Addr) (w : World) (hk : key.length = 32) (hkb : ∀ x ∈ key, x < 256) (hkr : w.rangeAt bk ok (ints .u8 key)) (hck : 32 ≤ ck)
    (hT : TextIs w pt text) (htl : text.length = n) (hnl : n ≤ 600) (hct : n ≤ ct) :
    Calls Tryd.prog 70 #[.slice (some ⟨bk, ok, none⟩) 32 ck, .slice pt n ct] w fun e w' => ∃ v, e = .returned v ∧ w'.ownsRow w.heap.size 5 1 v 16 (ints .u8 (Po.tag key text)) ∧ Below w.heap.size w w' := by
  have HKL : Hid (key.length = 32) := hk
  have HKB : Hid (∀ x ∈ key, x < 256) := hkb
  have HKR : Hid (w.rangeAt bk ok (ints .u8 key)) := hkr
  have HT : Hid (TextIs w pt text) := hT
  have HTL : Hid (text.length = n) := htl
  have HMK : Hid (m2 (m1 (key.take 16) 4) 3 = Po.clamp (key.take 16)) := masks _ (by rw [List.length_take, hk]; rfl)
  have HK16 : Hid ((key.take 16).length = 16) := by
    show _ = _
    rw [List.length_take, hk]; rfl
  clear hk hkb hkr hT htl
  obtain ⟨TG, hTG⟩ : ∃ TG, Po.tag key text = TG := ⟨_, rfl⟩
  rw [hTG]
  have HTGE : Hid (Po.tag key text = TG) := hTG
  clear hTG
  have hck1 : (16 : Int) ≤ (ck : Int) := by omega
  have hck2 : ¬ ck = 16 := by omega
  go_enter Tryd.func70, Tryd.ntmps70
  go_wp2_with fail
  refine (rnumber_any (key.take 16) (some ⟨bk, ok, none⟩) 16 ck w ⟨lt_take HKB.out 16, fun _ => ⟨bk, ok, rfl, range_take HKR.out 16⟩⟩ HK16.out (by decide)).mono ?_
  rintro e w1 ⟨v1, rfl, ho1, hb1⟩
  obtain ⟨g, cg, rfl, hgb, hgl, hcg, hr1⟩ := own_cell ho1 (by decide)
  have HR1 : Hid (RR w1 g (key.take 16)) := ⟨hr1, by rw [HK16.out]; exact (own_there ho1).1⟩
  have HB1 : Hid (Below w.heap.size w w1) := hb1
  have HKB1 : Hid (∀ x ∈ key.take 16, x < 256) := lt_take HKB.out 16
  clear ho1 hb1 hr1 hgl
  have HCE : Hid (Po.pos 256 (Po.clamp (key.take 16)) = Po.rOf key) := by
    show _ = _
    rw [clamp_take]; rfl
  have HCL : Hid ((Po.clamp (key.take 16)).length = 16) := Po.clamp_length _
  have HCB : Hid (∀ x ∈ Po.clamp (key.take 16), x < 256) := Po.clamp_lt HKB1.out
  generalize Po.clamp (key.take 16) = CL at *
  generalize key.take 16 = K1 at *
  go_wp2_with fail
  go_loopw [6] (fun i wr => ∃ k : Nat, k ≤ 4 ∧ i = .int .i64 ((4 * k + 3 : Nat) : Int) ∧ Hid (RR wr g (m1 K1 k)) ∧ Hid (w1.grownBy wr (some g))) (fun i _ => 20 - (intOf i).toNat)
  case atStart => exact ⟨0, by omega, rfl, HR1.out, grownBy_refl _ _⟩
  case round =>
    clear HR1
    obtain ⟨k, hk, rfl, H3, G3⟩ := hrel
    by_cases hlt : k < 4
    · have hl3 : 4 * k + 3 < (m1 K1 k).length := by rw [m1_length, HK16.out]; omega
      have ckk := H3.out.cell (4 * k + 3) hl3
      have fk := H3.out.may (4 * k + 3) hl3
      have xk : Sp.nth (m1 K1 k) (4 * k + 3) < 256 := Sp.nth_lt (by decide) (m1_lt HKB1.out k) _
      have HS : Hid (RR (wr.setCell ⟨g, 4 * k + 3, none⟩ (.int .i64 ((Sp.nth (m1 K1 k) (4 * k + 3) % 16 : Nat) : Int))) g (m1 K1 (k + 1))) := H3.out.set _ _ hl3
      have HG : Hid (w1.grownBy (wr.setCell ⟨g, 4 * k + 3, none⟩ (.int .i64 ((Sp.nth (m1 K1 k) (4 * k + 3) % 16 : Nat) : Int))) (some g)) := grownBy_set G3.out _ _
      clear H3 G3 hl3
      generalize Sp.nth (m1 K1 k) (4 * k + 3) = y at *
      have m16 : (y : Int).tmod 16 = ((y % 16 : Nat) : Int) := by rw [Int.tmod_eq_emod_of_nonneg (by omega)]; omega
      generalize y % 16 = ym at *
      obtain ⟨j, hj⟩ : ∃ j, 4 * k + 3 = j := ⟨_, rfl⟩
      rw [hj] at ckk fk HS HG ⊢
      have j0 : (0 : Int) ≤ (j : Int) := by omega
      have j1 : (j : Int) < 16 := by omega
      have HJ : Hid (4 * k + 3 = j) := hj
      clear hj
      go_wp2_with fail
      go_roundw
      case rel => exact ⟨k + 1, by omega, by have := HJ.out; go_num, HS.out, HG.out⟩
      case measure => have := HJ.out; simp [intOf]; omega
    · obtain rfl : k = 4 := by omega
      have HM1 : Hid (∀ x ∈ m1 K1 4, x < 256) := m1_lt HKB1.out 4
      have HML : Hid ((m1 K1 4).length = 16) := by show _ = _; rw [m1_length]; exact HK16.out
      generalize m1 K1 4 = L1 at *
      generalize hw3 : wr = w3 at *
      clear hw3
      go_wp2_with fail
      go_loopw [7] (fun i wr => ∃ k : Nat, k ≤ 3 ∧ i = .int .i64 ((4 * k + 4 : Nat) : Int) ∧ Hid (RR wr g (m2 L1 k)) ∧ Hid (w1.grownBy wr (some g))) (fun i _ => 20 - (intOf i).toNat)
      case atStart => exact ⟨0, by omega, rfl, H3.out, G3.out⟩
      case round =>
        clear H3 G3
        obtain ⟨k, hk, rfl, H3, G3⟩ := hrel
        by_cases hlt : k < 3
        · have hl3 : 4 * k + 4 < (m2 L1 k).length := by rw [m2_length, HML.out]; omega
          have ckk := H3.out.cell (4 * k + 4) hl3
          have fk := H3.out.may (4 * k + 4) hl3
          have xk : Sp.nth (m2 L1 k) (4 * k + 4) < 256 := Sp.nth_lt (by decide) (m2_lt HM1.out k) _
          have HS : Hid (RR (wr.setCell ⟨g, 4 * k + 4, none⟩ (.int .i64 ((Sp.nth (m2 L1 k) (4 * k + 4) / 4 * 4 : Nat) : Int))) g (m2 L1 (k + 1))) := H3.out.set _ _ hl3
          have HG : Hid (w1.grownBy (wr.setCell ⟨g, 4 * k + 4, none⟩ (.int .i64 ((Sp.nth (m2 L1 k) (4 * k + 4) / 4 * 4 : Nat) : Int))) (some g)) := grownBy_set G3.out _ _
          clear H3 G3 hl3
          generalize Sp.nth (m2 L1 k) (4 * k + 4) = y at *
          have d4 : (y : Int).tdiv 4 = ((y / 4 : Nat) : Int) := by rw [Int.tdiv_eq_ediv_of_nonneg (by omega)]; omega
          have y4 : y / 4 ≤ 63 := by omega
          generalize y / 4 = yd at *
          have e4 : ((yd * 4 : Nat) : Int) = (yd : Int) * 4 := by omega
          rw [e4] at HS HG
          obtain ⟨j, hj⟩ : ∃ j, 4 * k + 4 = j := ⟨_, rfl⟩
          rw [hj] at ckk fk HS HG ⊢
          have j0 : (0 : Int) ≤ (j : Int) := by omega
          have j1 : (j : Int) < 16 := by omega
          have HJ : Hid (4 * k + 4 = j) := hj
          clear hj
          go_wp2_with fail
          go_roundw
          case rel => exact ⟨k + 1, by omega, by have := HJ.out; go_num, HS.out, HG.out⟩
          case measure => have := HJ.out; simp [intOf]; omega
        · obtain rfl : k = 3 := by omega
          have h3 := H3.out
          rw [HMK.out] at h3
          have HRA : Hid (wr.rangeAt g 0 (ints .i64 CL)) := h3.range
          have HBA : Hid (Below w.heap.size w wr) := below_grown HB1.out G3.out hgb
          clear h3 H3 G3 HMK HM1 HML HB1 HKB1
          generalize hw4 : wr = w4 at *
          clear hw4
          obtain ⟨R, hR⟩ : ∃ R, Po.pos 256 CL = R := ⟨_, rfl⟩
          have HRE : Hid (R = Po.rOf key) := by
            show _ = _
            rw [← hR]; exact HCE.out
          have HRP : Hid (Po.pos 256 CL = R) := hR
          clear hR HCE
          go_wp2_with fail
          go_loopw [8, 9] (fun va u wr => ∃ (k : Nat) (a : List Nat), 16 * k < n + 16 ∧ u = .int .i64 ((16 * k : Nat) : Int) ∧ Hid (NumIs wr va a) ∧ Hid (∀ x ∈ a, x < 256) ∧ Hid (a.length ≤ 17 + 19 * k) ∧ Hid (Po.pos 256 a = Po.acc R text k) ∧ Hid (wr.rangeAt g 0 (ints .i64 CL)) ∧ Hid (Below w.heap.size w wr)) (fun _ u _ => n + 16 - (intOf u).toNat)
          case atStart => exact ⟨0, [], by omega, rfl, ⟨none, 0, rfl, by simp, fun h => absurd rfl h⟩, fun x hx => by simp at hx, by show _ ≤ _; simp, rfl, HRA.out, HBA.out⟩
          case round =>
            clear HRA HBA
            obtain ⟨k, a, hk, rfl, HN, HAB, HAL, HP, HRA, HB⟩ := hrel
            obtain ⟨pa, ca, rfl, hca, hra⟩ := HN.out
            by_cases hlt : 16 * k < n
            · obtain ⟨A, hA⟩ : ∃ A, 16 * k = A := ⟨_, rfl⟩
              rw [hA] at hlt hk ⊢
              obtain ⟨bt, ot, rfl, hrt⟩ := HT.out.2 (by intro e; have := HTL.out; rw [e] at this; simp at this; omega)
              have hrt2 : wr.rangeAt bt (ot + A) (ints .u8 ((text.drop A).take 16)) := range_take (range_drop (rangeAt_below HB.out hrt) A) 16
              obtain ⟨m, hm⟩ : ∃ m, min (A + 16) n - A = m := ⟨_, rfl⟩
              have hml : ((text.drop A).take 16).length = m := by rw [List.length_take, List.length_drop, HTL.out]; omega
              have HTX : Hid (TextIs wr (some ⟨bt, ot + A, none⟩) ((text.drop A).take 16)) := ⟨lt_take (lt_drop HT.out.1 A) 16, fun _ => ⟨_, _, rfl, hrt2⟩⟩
              have HMB : Hid (∀ x ∈ (text.drop A).take 16, x < 256) := lt_take (lt_drop HT.out.1 A) 16
              have HML : Hid (((text.drop A).take 16).length = m) := hml
              have HPT : Hid (Po.pos 256 ((text.drop A).take 16 ++ [1]) = Po.part text k) := by
                show _ = _
                rw [← hA]; rfl
              have hm16 : m ≤ 16 := by omega
              have hal : a.length ≤ 17 + 19 * k := HAL.out
              have hk19 : 17 + 19 * k ≤ 740 := by omega
              have HAK : Hid (16 * k = A) := hA
              have HLT : Hid (A < n) := hlt
              have a0 : (A : Int) < (n : Int) := by omega
              have a3 : ¬ ct = A := by omega
              have a4 : (n : Int) ≤ (ct : Int) := by omega
              have a5 : ¬ (ct : Int) < (A : Int) := by omega
              have hmm : (A + 16 ≤ n ∧ m = 16) ∨ (n < A + 16 ∧ m = n - A) := by omega
              clear hrt hrt2 hm hA hml HT hra
              generalize (text.drop A).take 16 = blk at *
              rcases hmm with ⟨hq1, rfl⟩ | ⟨hq1, hq2⟩
              · have e1 : ¬ (n : Int) < (A : Int) + 16 := by omega
                have e2 : (A : Int) + 16 ≤ (ct : Int) := by omega
                go_wp2_with fail
                first | rw [show ((A : Int) + 16).toNat - A = 16 from by omega] | skip
                refine (rnumber_any blk (some ⟨bt, ot + A, none⟩) 16 (ct - A) wr HTX.out HML.out (by omega)).mono ?_
                rintro e w5 ⟨v5, rfl, ho5, hb5⟩
                have HO5 : Hid (w5.ownsRow wr.heap.size 3 1 v5 16 (ints .i64 blk)) := ho5
                have HB5 : Hid (Below wr.heap.size wr w5) := hb5
                have hs5 := hb5.size
                clear ho5 hb5 HTX
                obtain ⟨q5, c5, rfl⟩ := own_slice HO5.out
                go_wp2_with (first | with_reducible (refine stop_builtin .append ?_))
                refine Stop.go ?_
                have hO6 : (w5.alloc (Obj.cells (arr .i64 [1]) 3)).ownsRow wr.heap.size 3 1 (.slice q5 16 c5) 16 (ints .i64 blk) := ownsRow_alloc HO5.out _
                refine law_ints_from wr.heap.size (.slice q5 16 c5) 16 blk w5.heap.size 0 1 1 [1] rfl rfl rfl hO6 (rangeAt_of_row (heap_alloc_new w5 _)) (by omega) (by simp; omega) ?_
                intro v6 w6 ho6 hg6
                have hb6 : Below wr.heap.size wr w6 := (HB5.out.alloc hs5 _).trans (below_grown' (Below.refl _ _) hg6 hO6 (by simp; omega) (Nat.le_refl _))
                have HN6 : Hid (NumIs w6 v6 (blk ++ [1])) := own_num ho6
                have HNA6 : Hid (NumIs w6 (.slice pa a.length ca) a) := HN.out.below hb6
                have HB6 : Hid (Below wr.heap.size wr w6) := hb6
                have HBL : Hid ((blk ++ [1]).length = 16 + 1) := by show _ = _; simp [HML.out]
                have HBB : Hid (∀ x ∈ blk ++ [1], x < 256) := fun x hx => by
                  rcases List.mem_append.1 hx with h | h
                  · exact HMB.out x h
                  · rw [List.mem_singleton.1 h]; decide
                clear ho6 hg6 hb6 hO6 HO5 HB5 hs5 HN HMB HML
                generalize blk ++ [1] = blk1 at *
                go_wp2_with fail
                refine (add_any a blk1 _ v6 w6 HNA6.out HN6.out HAB.out HBB.out (by omega) (by rw [HBL.out]; omega)).mono ?_
                rintro e w7 ⟨v7, su, rfl, hadd, ho7, hb7⟩
                have HN7 : Hid (NumIs w7 v7 su) := own_num ho7
                have HB7 : Hid (Below wr.heap.size wr w7) := HB6.out.trans (hb7.mono HB6.out.size)
                have HSB : Hid (∀ x ∈ su, x < 256) := hadd.small
                have HSV : Hid (Po.pos 256 su = Po.acc R text k + Po.part text k) := by
                  show _ = _
                  rw [hadd.val, HP.out, HPT.out]
                have hsl : su.length ≤ 18 + 19 * k := by
                  have h1 := hadd.up
                  rw [HBL.out] at h1
                  omega
                clear hadd ho7 hb7 HN6 HNA6 HB6 HBL HBB HAB HP HPT
                have HRC7 : Hid (NumIs w7 (.slice (some ⟨g, 0, none⟩) 16 cg) CL) := ⟨_, cg, by rw [HCL.out], by rw [HCL.out]; omega, fun _ => ⟨g, 0, rfl, rangeAt_below HB7.out HRA.out⟩⟩
                go_wp2_with fail
                refine (rtimes_any su CL v7 _ w7 HN7.out HRC7.out HSB.out HCB.out (by omega) (by rw [HCL.out]; decide)).mono ?_
                rintro e w8 ⟨v8, pr, rfl, hn8, hl8, hb8s, hv8, hb8⟩
                have HN8 : Hid (NumIs w8 v8 pr) := hn8
                have HB8 : Hid (Below wr.heap.size wr w8) := HB7.out.trans (hb8.mono HB7.out.size)
                have HPB : Hid (∀ x ∈ pr, x < 256) := hb8s
                have HPV : Hid (Po.pos 256 pr = (Po.acc R text k + Po.part text k) * R) := by
                  show _ = _
                  rw [hv8, HSV.out, HRP.out]
                have hpl : pr.length ≤ 35 + 19 * k := by rw [hl8, HCL.out]; omega
                clear hn8 hl8 hb8s hv8 hb8 HN7 HB7 HSB HSV HRC7
                go_wp2_with fail
                refine (rleast_any pr v8 w8 HN8.out HPB.out (by omega)).mono ?_
                rintro e w9 ⟨v9, a9, rfl, hn9, hl9, hb9⟩
                have HN9 : Hid (NumIs w9 v9 a9) := hn9
                have HB9' : Below wr.heap.size wr w9 := HB8.out.trans (hb9.mono HB8.out.size)
                have HB9 : Hid (Below w.heap.size w w9) := HB.out.trans (HB9'.mono HB.out.size)
                have HRA9 : Hid (w9.rangeAt g 0 (ints .i64 CL)) := rangeAt_below HB9' HRA.out
                have HAB9 : Hid (∀ x ∈ a9, x < 256) := hl9.small
                have HAL9 : Hid (a9.length ≤ 17 + 19 * (k + 1)) := by
                  have := hl9.len
                  show _ ≤ _
                  omega
                have HP9 : Hid (Po.pos 256 a9 = Po.acc R text (k + 1)) := by
                  show _ = _
                  rw [hl9.val, HPV.out]
                  rfl
                clear hn9 hl9 hb9 HB9' HN8 HB8 HPB HPV HRA HB
                go_wp2_with fail
                go_roundw
                case rel =>
                  first
                    | exact ⟨k + 1, a9, (by have := HAK.out; omega), (by have := HAK.out; go_num), HN9.out, HAB9.out, HAL9.out, HP9.out, HRA9.out, HB9.out⟩
                    | ((repeat apply Exists.intro)
                       refine ⟨⟨k + 1, a9, (by have := HAK.out; omega), ?_, HN9.out, HAB9.out, HAL9.out, HP9.out, HRA9.out, HB9.out⟩, rfl⟩
                       have := HAK.out
                       go_num)
                case measure => have := HAK.out; have := HLT.out; simp [intOf]; omega
              · have e1 : (n : Int) < (A : Int) + 16 := by omega
                have HQ2 : Hid (m = n - A) := hq2
                clear hq2
                go_wp2_with fail
                first | rw [show n - A = m from HQ2.out.symm] | skip
                refine (rnumber_any blk (some ⟨bt, ot + A, none⟩) m (ct - A) wr HTX.out HML.out (by omega)).mono ?_
                rintro e w5 ⟨v5, rfl, ho5, hb5⟩
                have HO5 : Hid (w5.ownsRow wr.heap.size 3 1 v5 m (ints .i64 blk)) := ho5
                have HB5 : Hid (Below wr.heap.size wr w5) := hb5
                have hs5 := hb5.size
                clear ho5 hb5 HTX
                obtain ⟨q5, c5, rfl⟩ := own_slice HO5.out
                go_wp2_with (first | with_reducible (refine stop_builtin .append ?_))
                refine Stop.go ?_
                have hO6 : (w5.alloc (Obj.cells (arr .i64 [1]) 3)).ownsRow wr.heap.size 3 1 (.slice q5 m c5) m (ints .i64 blk) := ownsRow_alloc HO5.out _
                refine law_ints_from wr.heap.size (.slice q5 m c5) m blk w5.heap.size 0 1 1 [1] rfl rfl rfl hO6 (rangeAt_of_row (heap_alloc_new w5 _)) (by omega) (by simp; omega) ?_
                intro v6 w6 ho6 hg6
                have hb6 : Below wr.heap.size wr w6 := (HB5.out.alloc hs5 _).trans (below_grown' (Below.refl _ _) hg6 hO6 (by simp; omega) (Nat.le_refl _))
                have HN6 : Hid (NumIs w6 v6 (blk ++ [1])) := own_num ho6
                have HNA6 : Hid (NumIs w6 (.slice pa a.length ca) a) := HN.out.below hb6
                have HB6 : Hid (Below wr.heap.size wr w6) := hb6
                have HBL : Hid ((blk ++ [1]).length = m + 1) := by show _ = _; simp [HML.out]
                have HBB : Hid (∀ x ∈ blk ++ [1], x < 256) := fun x hx => by
                  rcases List.mem_append.1 hx with h | h
                  · exact HMB.out x h
                  · rw [List.mem_singleton.1 h]; decide
                clear ho6 hg6 hb6 hO6 HO5 HB5 hs5 HN HMB HML
                generalize blk ++ [1] = blk1 at *
                go_wp2_with fail
                refine (add_any a blk1 _ v6 w6 HNA6.out HN6.out HAB.out HBB.out (by omega) (by rw [HBL.out]; omega)).mono ?_
                rintro e w7 ⟨v7, su, rfl, hadd, ho7, hb7⟩
                have HN7 : Hid (NumIs w7 v7 su) := own_num ho7
                have HB7 : Hid (Below wr.heap.size wr w7) := HB6.out.trans (hb7.mono HB6.out.size)
                have HSB : Hid (∀ x ∈ su, x < 256) := hadd.small
                have HSV : Hid (Po.pos 256 su = Po.acc R text k + Po.part text k) := by
                  show _ = _
                  rw [hadd.val, HP.out, HPT.out]
                have hsl : su.length ≤ 18 + 19 * k := by
                  have h1 := hadd.up
                  rw [HBL.out] at h1
                  omega
                clear hadd ho7 hb7 HN6 HNA6 HB6 HBL HBB HAB HP HPT
                have HRC7 : Hid (NumIs w7 (.slice (some ⟨g, 0, none⟩) 16 cg) CL) := ⟨_, cg, by rw [HCL.out], by rw [HCL.out]; omega, fun _ => ⟨g, 0, rfl, rangeAt_below HB7.out HRA.out⟩⟩
                go_wp2_with fail
                refine (rtimes_any su CL v7 _ w7 HN7.out HRC7.out HSB.out HCB.out (by omega) (by rw [HCL.out]; decide)).mono ?_
                rintro e w8 ⟨v8, pr, rfl, hn8, hl8, hb8s, hv8, hb8⟩
                have HN8 : Hid (NumIs w8 v8 pr) := hn8
                have HB8 : Hid (Below wr.heap.size wr w8) := HB7.out.trans (hb8.mono HB7.out.size)
                have HPB : Hid (∀ x ∈ pr, x < 256) := hb8s
                have HPV : Hid (Po.pos 256 pr = (Po.acc R text k + Po.part text k) * R) := by
                  show _ = _
                  rw [hv8, HSV.out, HRP.out]
                have hpl : pr.length ≤ 35 + 19 * k := by rw [hl8, HCL.out]; omega
                clear hn8 hl8 hb8s hv8 hb8 HN7 HB7 HSB HSV HRC7
                go_wp2_with fail
                refine (rleast_any pr v8 w8 HN8.out HPB.out (by omega)).mono ?_
                rintro e w9 ⟨v9, a9, rfl, hn9, hl9, hb9⟩
                have HN9 : Hid (NumIs w9 v9 a9) := hn9
                have HB9' : Below wr.heap.size wr w9 := HB8.out.trans (hb9.mono HB8.out.size)
                have HB9 : Hid (Below w.heap.size w w9) := HB.out.trans (HB9'.mono HB.out.size)
                have HRA9 : Hid (w9.rangeAt g 0 (ints .i64 CL)) := rangeAt_below HB9' HRA.out
                have HAB9 : Hid (∀ x ∈ a9, x < 256) := hl9.small
                have HAL9 : Hid (a9.length ≤ 17 + 19 * (k + 1)) := by
                  have := hl9.len
                  show _ ≤ _
                  omega
                have HP9 : Hid (Po.pos 256 a9 = Po.acc R text (k + 1)) := by
                  show _ = _
                  rw [hl9.val, HPV.out]
                  rfl
                clear hn9 hl9 hb9 HB9' HN8 HB8 HPB HPV HRA HB
                go_wp2_with fail
                go_roundw
                case rel =>
                  first
                    | exact ⟨k + 1, a9, (by have := HAK.out; omega), (by have := HAK.out; go_num), HN9.out, HAB9.out, HAL9.out, HP9.out, HRA9.out, HB9.out⟩
                    | ((repeat apply Exists.intro)
                       refine ⟨⟨k + 1, a9, (by have := HAK.out; omega), ?_, HN9.out, HAB9.out, HAL9.out, HP9.out, HRA9.out, HB9.out⟩, rfl⟩
                       have := HAK.out
                       go_num)
                case measure => have := HAK.out; have := HLT.out; simp [intOf]; omega
            · have hkp : k = Po.parts text := by
                unfold Po.parts
                rw [HTL.out]
                omega
              have hl0 : ¬ ((16 * k : Nat) : Int) < (n : Int) := by omega
              have hal : a.length ≤ 17 + 19 * k := HAL.out
              have hk19 : 17 + 19 * k ≤ 760 := by omega
              have HPA : Hid (Po.pos 256 a + Po.pos 256 (key.drop 16) = Po.tagN key text) := by
                show _ = _
                rw [HP.out, hkp, HRE.out]
                rfl
              have hkr := range_drop (rangeAt_below HB.out HKR.out) 16
              have HTX : Hid (TextIs wr (some ⟨bk, ok + 16, none⟩) (key.drop 16)) := ⟨lt_drop HKB.out 16, fun _ => ⟨_, _, rfl, hkr⟩⟩
              have HDL : Hid ((key.drop 16).length = 16) := by
                show _ = _
                rw [List.length_drop, HKL.out]
              have HDB : Hid (∀ x ∈ key.drop 16, x < 256) := lt_drop HKB.out 16
              clear hkr HP HRE HRP HRA HT hra
              generalize ((16 * k : Nat) : Int) = zA at *
              clear hkp hk hlt
              go_wp2_with fail
              generalize key.drop 16 = K2 at *
              refine (rnumber_any K2 (some ⟨bk, ok + 16, none⟩) 16 (ck - 16) wr HTX.out HDL.out (by omega)).mono ?_
              rintro e w5 ⟨v5, rfl, ho5, hb5⟩
              have HN5 : Hid (NumIs w5 v5 K2) := own_num ho5
              have HNA5 : Hid (NumIs w5 (.slice pa a.length ca) a) := HN.out.below hb5
              have HB5 : Hid (Below w.heap.size w w5) := HB.out.trans (hb5.mono HB.out.size)
              clear ho5 hb5 HTX HN HB
              go_wp2_with fail
              refine (add_any a K2 _ v5 w5 HNA5.out HN5.out HAB.out HDB.out (by omega) (by rw [HDL.out]; omega)).mono ?_
              rintro e w6 ⟨v6, S, rfl, hadd, ho6, hb6⟩
              have HN6 : Hid (NumIs w6 v6 S) := own_num ho6
              have HB6 : Hid (Below w.heap.size w w6) := HB5.out.trans (hb6.mono HB5.out.size)
              have HSN : Hid (∀ i, i < 16 → Sp.nth (Po.tag key text) i = Sp.nth S i) := fun i hi => by
                rw [tag_byte _ _ _ hi, ← HPA.out, ← hadd.val, digit_of hadd.small]
              have HSB : Hid (∀ x ∈ S, x < 256) := hadd.small
              have hsl : S.length ≤ 1000 := by
                have h1 := hadd.up
                rw [HDL.out] at h1
                omega
              have HTGL : Hid ((Po.tag key text).length = 16) := Po.tag_length _ _
              clear hadd ho6 hb6 HN5 HNA5 HB5 HPA HAB HDL HDB
              rw [HTGE.out] at HSN HTGL
              obtain ⟨p6, c6, rfl, hc6, hr6⟩ := HN6.out
              have HR6 : Hid (S ≠ [] → ∃ b o, p6 = some ⟨b, o, none⟩ ∧ w6.rangeAt b o (ints .i64 S)) := hr6
              obtain ⟨ls, hls⟩ : ∃ ls, S.length = ls := ⟨_, rfl⟩
              have HLS : Hid (S.length = ls) := hls
              rw [hls] at hsl hc6 ⊢
              clear hr6 hls HN6
              go_wp2_with fail
              go_loopw [11, 12] (fun sl u wr => ∃ i : Nat, i ≤ 16 ∧ u = .int .i64 i ∧ Hid (wr.ownsRow w6.heap.size 5 1 sl i (ints .u8 (TG.take i))) ∧ Hid (Below w6.heap.size w6 wr)) (fun _ u _ => 16 - (intOf u).toNat)
              case atStart => exact ⟨0, by omega, rfl, own_none _ _ _ _, Below.refl _ _⟩
              case round =>
                obtain ⟨i, hi, rfl, HO, HW⟩ := hrel
                obtain ⟨q, cq, rfl⟩ := own_slice HO.out
                have hbn := HW.out.size
                by_cases hlt : i < 16
                · have htn := HSN.out i hlt
                  have HTS : Hid (TG.take (i + 1) = TG.take i ++ [Sp.nth TG i]) := Po.take_succ_nth (by rw [HTGL.out]; exact hlt)
                  have xs : Sp.nth S i < 256 := Sp.nth_lt (by decide) HSB.out i
                  have g1 : (i : Int) < 16 := by omega
                  have i0 : (0 : Int) ≤ (i : Int) := by omega
                  by_cases his : i < ls
                  · obtain ⟨b6, o6, rfl, hr⟩ := HR6.out (by intro e; have := HLS.out; rw [e] at this; simp at this; omega)
                    have c1 := range_cell (rangeAt_below HW.out hr) i (by rw [HLS.out]; exact his)
                    have g2 : (i : Int) < (ls : Int) := by omega
                    clear hr
                    rw [← htn] at c1 xs
                    clear htn
                    generalize Sp.nth TG i = y at *
                    go_wp2_with (first | with_reducible (refine stop_builtin .append ?_))
                    refine Stop.go ?_
                    have HO2 : Hid ((wr.alloc (Obj.cells #[.int .u8 (y : Int)] 5)).ownsRow w6.heap.size 5 1 (.slice q i cq) i (ints .u8 (TG.take i))) := ownsRow_alloc HO.out _
                    have HW2 : Hid (Below w6.heap.size w6 (wr.alloc (Obj.cells #[.int .u8 (y : Int)] 5))) := HW.out.alloc hbn _
                    refine law_append_from w6.heap.size (.slice q i cq) i (TG.take i) wr.heap.size 0 1 1 [y] rfl rfl rfl HO2.out (rangeAt_of_row (heap_alloc_new wr _)) (by omega) (by simp; omega) ?_
                    intro v' w' hown' hg'
                    have HO3 : Hid (w'.ownsRow w6.heap.size 5 1 v' (i + 1) (ints .u8 (TG.take (i + 1)))) := by
                      rw [HTS.out]
                      exact hown'
                    have HW3 : Hid (Below w6.heap.size w6 w') := below_grown' HW2.out hg' HO2.out (by simp; omega) (Nat.le_refl _)
                    clear hown' hg' HO HW HO2 HW2 HTS c1
                    go_wp2_with fail
                    go_roundw
                    case rel =>
                      first
                        | exact ⟨i + 1, by omega, by go_num, HO3.out, HW3.out⟩
                        | ((repeat apply Exists.intro)
                           refine ⟨⟨i + 1, by omega, ?_, HO3.out, HW3.out⟩, rfl⟩
                           go_num)
                    case measure => simp [intOf]; omega
                  · have g2 : ¬ (i : Int) < (ls : Int) := by omega
                    rw [nth_beyond (l := S) (by rw [HLS.out]; omega)] at htn
                    rw [htn] at HTS
                    clear htn xs
                    go_wp2_with (first | with_reducible (refine stop_builtin .append ?_))
                    refine Stop.go ?_
                    have HO2 : Hid ((wr.alloc (Obj.cells #[.int .u8 0] 5)).ownsRow w6.heap.size 5 1 (.slice q i cq) i (ints .u8 (TG.take i))) := ownsRow_alloc HO.out _
                    have HW2 : Hid (Below w6.heap.size w6 (wr.alloc (Obj.cells #[.int .u8 0] 5))) := HW.out.alloc hbn _
                    refine law_append_from w6.heap.size (.slice q i cq) i (TG.take i) wr.heap.size 0 1 1 [0] rfl rfl rfl HO2.out (rangeAt_of_row (heap_alloc_new wr _)) (by omega) (by simp; omega) ?_
                    intro v' w' hown' hg'
                    have HO3 : Hid (w'.ownsRow w6.heap.size 5 1 v' (i + 1) (ints .u8 (TG.take (i + 1)))) := by
                      rw [HTS.out]
                      exact hown'
                    have HW3 : Hid (Below w6.heap.size w6 w') := below_grown' HW2.out hg' HO2.out (by simp; omega) (Nat.le_refl _)
                    clear hown' hg' HO HW HO2 HW2 HTS
                    go_wp2_with fail
                    go_roundw
                    case rel =>
                      first
                        | exact ⟨i + 1, by omega, by go_num, HO3.out, HW3.out⟩
                        | ((repeat apply Exists.intro)
                           refine ⟨⟨i + 1, by omega, ?_, HO3.out, HW3.out⟩, rfl⟩
                           go_num)
                    case measure => simp [intOf]; omega
                · obtain rfl : i = 16 := by omega
                  have h1 := HO.out
                  rw [List.take_of_length_le (by rw [HTGL.out]; exact Nat.le_refl _)] at h1
                  have HO1 : Hid (wr.ownsRow w.heap.size 5 1 (.slice q 16 cq) 16 (ints .u8 TG)) := own_base h1 HB6.out.size
                  have HW1 : Hid (Below w.heap.size w wr) := HB6.out.trans (HW.out.mono HB6.out.size)
                  clear h1 HO HW
                  go_wp2_with fail
                  go_ret
                  exact ⟨_, rfl, HO1.out, HW1.out⟩
end Go.Proofs.YtbblokikhocdfaaDoor.P4
