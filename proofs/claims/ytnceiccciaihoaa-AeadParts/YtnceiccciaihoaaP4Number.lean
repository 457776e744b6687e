/- The contract of number. -/
import Derived.Test.YtnceiccciaihoaaP4Plus
namespace Go.Proofs.Ytnceiccciaihoaa.P4
open Go.RowKit
/-- Five digits. -/
def Wide (d : List Nat) : Prop := d.length = 5 ∧ ∀ x ∈ d, x < Po.B
theorem range_cell {w : World} {g o : Nat} {k : IntKind} {l : List Nat} (h : w.rangeAt g o (ints k l)) (i : Nat) (hi : i < l.length) : w.cell? ⟨g, o + i, none⟩ = some (.int k (Sp.nth l i : Nat)) := h i _ (ints_get k l i hi)
theorem rangeAt_grown {w w' : World} {b o g : Nat} {cs : List Value} (h : w.rangeAt b o cs) (hg : w.grownBy w' (some g)) (hb : b ≠ g) : w'.rangeAt b o cs := fun j v hv => by
  have hc := h j v hv
  have hlt := World.block_lt_of_cell? w _ hc
  have := hg.block b hlt (by simpa using hb)
  rw [← hc]
  unfold World.cell?
  rw [this]
theorem range_lt {w : World} {b o : Nat} {k : IntKind} {l : List Nat} (h : w.rangeAt b o (ints k l)) (hl : 0 < l.length) : b < w.heap.size := by
  have := h 0 _ (ints_get k l 0 hl)
  exact World.block_lt_of_cell? w _ this
def twoW (w : World) : World := (w.alloc (Obj.cells zeros5 51)).alloc (Obj.cells zeros5 51)
theorem twoW_0 (w : World) : WAt (twoW w) w.heap.size (List.replicate 5 0) := by
  show ((w.heap.push _).push _)[_]? = _
  rw [Array.getElem?_push_lt (by simp), Array.getElem_push_eq]
  rfl
theorem twoW_1 (w : World) : WAt (twoW w) (w.heap.size + 1) (List.replicate 5 0) := by
  show ((w.heap.push _).push _)[_]? = _
  rw [Array.getElem?_push, if_pos (by simp)]
  rfl
theorem twoW_size (w : World) : (twoW w).heap.size = w.heap.size + 2 := by simp [twoW]
theorem twoW_below (w : World) : Below w.heap.size w (twoW w) := ((Below.refl _ _).alloc (Nat.le_refl _) _).alloc (by simp) _
theorem set_le {l : List Nat} {k y a b : Nat} (h : ∀ x ∈ l, x ≤ a) (hy : y ≤ b) : ∀ x ∈ l.set k (Sp.nth l k + y), x ≤ a + b := fun x hx => by
  rcases List.mem_or_eq_of_mem_set hx with h1 | rfl
  · have := h x h1; omega
  · have : Sp.nth l k < a + 1 := Sp.nth_lt (by omega) (fun x hx => by have := h x hx; omega) k
    omega
theorem pow8 (k q s : Nat) (h : 26 * q + s = 8 * k) : Po.B ^ q * 2 ^ s = 256 ^ k := by
  rw [show Po.B = 2 ^ 26 from rfl, show (256 : Nat) = 2 ^ 8 from rfl, ← Nat.pow_mul, ← Nat.pow_mul, ← Nat.pow_add, h]
theorem shl_lt (y s : Nat) (hy : y < 256) (hs : s < 26) : y * 2 ^ s ≤ 17179869184 := by
  have h1 : 2 ^ s ≤ 2 ^ 26 := Nat.pow_le_pow_right (by decide) (by omega)
  have h2 : y * 2 ^ s ≤ 256 * 2 ^ 26 := Nat.mul_le_mul (by omega) h1
  exact h2
set_option maxHeartbeats 1000000 in
theorem number_any (l : List Nat) (L b o c : Nat) (w : World) (hl : l.length = L) (hL : L ≤ 17) (h0 : 0 < L) (hb : ∀ x ∈ l, x < 256) (hv : Po.pos 256 l < Po.B ^ 5) (hr : w.rangeAt b o (ints .u8 l)) :
    Calls Try.prog 30 #[.slice (some ⟨b, o, none⟩) L c] w fun e w' => ∃ d, e = .returned (.agg (arr .u64 d)) ∧ Wide d ∧ Po.pos Po.B d = Po.pos 256 l ∧ Below w.heap.size w w' := by
  have HL : Hid (l.length = L) := hl
  have HB : Hid (∀ x ∈ l, x < 256) := hb
  have HV : Hid (Po.pos 256 l < Po.B ^ 5) := hv
  have HR : Hid (w.rangeAt b o (ints .u8 l)) := hr
  have hbw : b < w.heap.size := range_lt hr (by omega)
  clear hl hb hv hr
  go_enter Try.func30, Try.ntmps30
  go_wp2_with fail
  rw [zeros5_eq, show ((w.alloc (Obj.cells zeros5 51)).alloc (Obj.cells zeros5 51)) = twoW w from rfl]
  have H0 : Hid (WAt (twoW w) w.heap.size (List.replicate 5 0)) := twoW_0 w
  have H1 : Hid (WAt (twoW w) (w.heap.size + 1) (List.replicate 5 0)) := twoW_1 w
  have HW : Hid (Below w.heap.size w (twoW w)) := twoW_below w
  generalize twoW w = W at *
  go_loopw [8] (fun i wr => ∃ (k : Nat) (st : List Nat), k ≤ L ∧ i = .int .i64 k ∧ Hid (WAt wr (w.heap.size + 1) st) ∧ Hid (W.grownBy wr (some (w.heap.size + 1))) ∧ Hid (st.length = 5) ∧ Hid (∀ x ∈ st, x ≤ k * 17179869184) ∧ Hid (Po.pos Po.B st = Po.pos 256 (l.take k))) (fun i _ => L - (intOf i).toNat)
  case atStart => exact ⟨0, _, by omega, rfl, H1.out, grownBy_refl _ _, by show _ = _; simp, fun x hx => by simp at hx; omega, by show _ = _; simp [Po.pos, List.replicate]⟩
  case round =>
    clear H1
    obtain ⟨k, st, hk, rfl, HS, HG, HSL, HSB, HP⟩ := hrel
    by_cases hlt : k < L
    · have ck := range_cell (rangeAt_grown (rangeAt_below HW.out HR.out) HG.out (by omega)) k (by rw [HL.out]; exact hlt)
      obtain ⟨q, hq⟩ : ∃ q, 8 * k / 26 = q := ⟨_, rfl⟩
      obtain ⟨s, hs⟩ : ∃ s, 8 * k % 26 = s := ⟨_, rfl⟩
      have hqs : 26 * q + s = 8 * k := by omega
      have hq5 : q < 5 := by omega
      have hs26 : s < 26 := by omega
      have d1 : (8 * (k : Int)).tdiv 26 = (q : Int) := by rw [Int.tdiv_eq_ediv_of_nonneg (by omega)]; omega
      have d2 : (8 * (k : Int)).tmod 26 = (s : Int) := by rw [Int.tmod_eq_emod_of_nonneg (by omega)]; omega
      have cq := HS.out.cell q (by rw [HSL.out]; exact hq5)
      have fq := HS.out.may q
      have xk : Sp.nth l k < 256 := Sp.nth_lt (by decide) HB.out k
      have hsh := shl_lt _ s xk hs26
      have HE : Hid (Po.pos 256 (l.take (k + 1)) = Po.pos 256 (l.take k) + 256 ^ k * Sp.nth l k) := Po.pos_take _ (by rw [HL.out]; exact hlt)
      have hst : Sp.nth st q < k * 17179869184 + 1 := Sp.nth_lt (by omega) (fun x hx => by have := HSB.out x hx; omega) q
      have HS2 : Hid (WAt ((wr.setCell ⟨w.heap.size + 1, q, none⟩ (.int .u64 ((Sp.nth st q + Sp.nth l k * 2 ^ s : Nat) : Int))).drew) (w.heap.size + 1) (st.set q (Sp.nth st q + Sp.nth l k * 2 ^ s))) := HS.out.set q _
      have HG2 : Hid (W.grownBy ((wr.setCell ⟨w.heap.size + 1, q, none⟩ (.int .u64 ((Sp.nth st q + Sp.nth l k * 2 ^ s : Nat) : Int))).drew) (some (w.heap.size + 1))) := grownBy_drewN (grownBy_set HG.out q _) 1
      have HSL2 : Hid ((st.set q (Sp.nth st q + Sp.nth l k * 2 ^ s)).length = 5) := by show _ = _; rw [List.length_set]; exact HSL.out
      have HSB2 : Hid (∀ x ∈ st.set q (Sp.nth st q + Sp.nth l k * 2 ^ s), x ≤ (k + 1) * 17179869184) := fun x hx => by
        have := set_le HSB.out hsh x hx
        omega
      have HP2 : Hid (Po.pos Po.B (st.set q (Sp.nth st q + Sp.nth l k * 2 ^ s)) = Po.pos 256 (l.take (k + 1))) := by
        show _ = _
        rw [Po.pos_set _ _ _ _ (by rw [HSL.out]; exact hq5), HE.out, HP.out, ← pow8 k q s hqs, Nat.mul_assoc, Nat.mul_comm (2 ^ s)]
      have e1 : (Sp.nth l k : Int) * 2 ^ s = ((Sp.nth l k * 2 ^ s : Nat) : Int) := by simp
      clear HS HG HSL HSB HP HE
      generalize st.set q (Sp.nth st q + Sp.nth l k * 2 ^ s) = st2 at *
      generalize Sp.nth l k * 2 ^ s = v at *
      generalize Sp.nth l k = y at *
      generalize Sp.nth st q = old at *
      have e2 : ((old + v : Nat) : Int) = (old : Int) + (v : Int) := by omega
      rw [e2] at HS2 HG2
      have k0 : (0 : Int) ≤ (k : Int) := by omega
      have k1 : (k : Int) < (L : Int) := by omega
      have q0 : (0 : Int) ≤ (q : Int) := by omega
      have q1 : (q : Int) < 5 := by omega
      have s0 : (0 : Int) ≤ (s : Int) := by omega
      have s1 : (s : Int) < 26 := by omega
      have m1 : min s 64 = s := by omega
      clear hq hs hqs
      go_wp2
      go_region
      go_wp2
      go_roundw
      case rel => exact ⟨k + 1, st2, by omega, by go_num, HS2.out, HG2.out, HSL2.out, HSB2.out, HP2.out⟩
      case measure => simp [intOf]; omega
    · obtain rfl : k = L := by omega
      have h6 : l.take k = l := List.take_of_length_le (by rw [HL.out]; exact Nat.le_refl _)
      have hp := HP.out
      rw [h6] at hp
      have HP6 : Hid (Po.pos Po.B st = Po.pos 256 l) := hp
      have H6 : Hid (WAt wr w.heap.size (List.replicate 5 0)) := H0.out.grown HG.out (by omega)
      have HB6 : Hid (Below w.heap.size w wr) := below_grown HW.out HG.out (by omega)
      have HC := carry_any st (w.heap.size + 1) wr HS.out HSL.out (fun x hx => by have := HSB.out x hx; omega)
      clear hp h6 HP HS HG HSB HW H0
      go_wp2_with fail
      refine HC.mono ?_
      rintro e w1 ⟨d, ov, rfl, hcd, hw1, hg1⟩
      clear HC
      have HD : Hid (Carried st d ov) := hcd
      have HDL : Hid (d.length = 5) := hcd.1
      have H7 : Hid (WAt w1 (w.heap.size + 1) d) := hw1
      have H8 : Hid (WAt w1 w.heap.size (List.replicate 5 0)) := H6.out.grown hg1 (by omega)
      have HB8 : Hid (Below w.heap.size w w1) := below_grown HB6.out hg1 (by omega)
      clear hcd hw1 hg1 H6 HB6
      go_wp2_with (first | with_reducible (refine stop_load 51 ?_))
      refine Stop.go ?_
      with_reducible refine law_load_arr (w.heap.size + 1) 0 .u64 d _ ?ux ?uc under38 rfl ?ui ?uk
      case ux => exact rfl
      case uc => exact rangeAt_of_row H7.out
      case ui => rw [HDL.out]; exact info38
      go_wp2_with (first | with_reducible (refine stop_store 51 ?_))
      refine Stop.go ?_
      with_reducible refine law_store w.heap.size 0 (arr .u64 d) ?tx ?ty ?tt ?ti (ints_one _ _) ?tk
      case tx => exact rfl
      case ty => exact rfl
      case tt => rw [arr_size, HDL.out]; exact there_of_row H8.out 5 (by simp [arr_size])
      case ti => rw [arr_size, HDL.out]; exact info38
      go_wp2_with fail
      refine bodyPost_ret (v := .agg (arr .u64 d)) (results_row rfl _ _ w.heap.size 0 (ints .u64 d) _ rfl ?_ under38 rfl ?_) rfl ⟨d, rfl, ⟨HD.out.1, HD.out.2.1⟩, ?_, ?_⟩
      · exact World.rangeAt_setCells_same _ _ _ _ (by rw [arr_list, ints_length, HDL.out]; exact there_of_row H8.out 5 (by simp [arr_size]))
      · rw [ints_length, HDL.out]; exact info38
      · have h1 := HD.out.2.2.1
        have h2 := HV.out
        rw [HP6.out] at h1
        rw [← h1] at h2
        have h0 : ov = 0 := by
          rcases Nat.eq_zero_or_pos ov with h | h
          · exact h
          · have : Po.B ^ 5 * 1 ≤ Po.B ^ 5 * ov := Nat.mul_le_mul_left _ h
            omega
        rw [h0, Nat.mul_zero, Nat.add_zero] at h1
        exact h1
      · exact Below.setCells _ _ _ HB8.out (by omega)
end Go.Proofs.Ytnceiccciaihoaa.P4
