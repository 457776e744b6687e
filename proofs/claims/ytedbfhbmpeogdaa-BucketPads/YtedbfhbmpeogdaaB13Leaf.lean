/- The contracts of Size, of the document's Size, and of noughts. -/
import Derived.Test.YtedbfhbmpeogdaaB13Base
import Derived.Test.YtedbfhbmpeogdaaB13Spec
namespace Go.Proofs.Ytedbfhbmpeogdaa.C8
open Go.RowKit
theorem cons_of {n : Nat} : ∀ (l : List Value), l.length = n + 1 → ∃ x l', l = x :: l' ∧ l'.length = n
  | x :: l', h => ⟨x, l', rfl, by simpa using h⟩
theorem Size_bad (i : Int) (w : World) (h : i < 0 ∨ 2046 < i) : Calls Try.prog 14 #[.int .i64 i] w fun e w' => e = .returned (.tuple #[.int .i64 0, .int .i64 11]) ∧ w' = w := by
  by_cases h0 : i < 0
  · clear h
    go_enter Try.func14, Try.ntmps14
    go_wp2_with fail
    refine wp_scope_jumps 0 (fun _ _ => False) (fun _ _ => 0) rfl ?_ (fun _ _ h => h.elim)
    go_wp2_with fail
    simp only [Exit.jump]
    go_ret2
    exact ⟨rfl, rfl⟩
  · have h1 : 2046 < i := by omega
    clear h
    go_enter Try.func14, Try.ntmps14
    go_wp2_with fail
    refine wp_scope_jumps 0 (fun _ _ => False) (fun _ _ => 0) rfl ?_ (fun _ _ h => h.elim)
    go_wp2_with fail
    simp only [Exit.jump]
    go_ret2
    exact ⟨rfl, rfl⟩
def sizeJ (n : Nat) (w : World) (a' : Act) (w' : World) : Prop :=
  ∃ (s : Nat) (u1 u2 u3 : Value) (l : List Value), BAt n s ∧ 64 < s ∧ w' = w ∧ l.length = 13 ∧ a' = { tmps := (.int .i64 n :: u1 :: u2 :: u3 :: .int .i64 s :: l).toArray, defers := [] }
def sizeMu (a' : Act) (_ : World) : Nat := 4096 - (intOf (a'.tmps.getD 4 undef)).toNat
set_option maxHeartbeats 1000000 in
theorem Size_ok (n : Nat) (w : World) (h : n ≤ 2046) : Calls Try.prog 14 #[.int .i64 n] w fun e w' => e = .returned (.tuple #[.int .i64 (bsz n : Nat), .int .i64 0]) ∧ w' = w := by
  obtain ⟨R, hR⟩ : ∃ R, bsz n = R := ⟨_, rfl⟩
  rw [hR]
  have HR : Hid (∀ s, BAt n s → n + 2 ≤ s → s = R) := fun s h1 h2 => hR ▸ h1.end h2
  clear hR
  have n0 : (0 : Int) ≤ (n : Int) := by omega
  have n1 : (n : Int) ≤ 2046 := by omega
  have HN : Hid (n ≤ 2046) := h
  clear h
  go_enter Try.func14, Try.ntmps14
  go_wp2_with fail
  refine wp_scope_jumps 0 (sizeJ n w) sizeMu rfl ?_ ?_
  · go_wp2_with fail
    go_step3
    by_cases h1 : 64 < 2 + n
    · have h2 : (64 : Int) < 2 + (n : Int) := by omega
      go_wp2_with fail
      go_step3
      refine ⟨rfl, 128, _, _, _, _, ?_, by omega, rfl, rfl, rfl⟩
      exact .inr (.inl ⟨rfl, by omega⟩)
    · have h2 : ¬ (64 : Int) < 2 + (n : Int) := by omega
      go_wp2_with fail
      simp only [Exit.jump]
      go_ret2
      have := HR.out 64 (.inl rfl) (by omega)
      exact ⟨by rw [← this]; rfl, rfl⟩
  · rintro a' w' ⟨s, u1, u2, u3, l0, hb, hs, rfl, h0, rfl⟩
    obtain ⟨x1, l1, rfl, h1⟩ := cons_of l0 h0
    obtain ⟨x2, l2, rfl, h2⟩ := cons_of l1 h1
    obtain ⟨x3, l3, rfl, h3⟩ := cons_of l2 h2
    obtain ⟨x4, l4, rfl, h4⟩ := cons_of l3 h3
    obtain ⟨x5, l5, rfl, h5⟩ := cons_of l4 h4
    obtain ⟨x6, l6, rfl, h6⟩ := cons_of l5 h5
    obtain ⟨x7, l7, rfl, h7⟩ := cons_of l6 h6
    obtain ⟨x8, l8, rfl, h8⟩ := cons_of l7 h7
    obtain ⟨x9, l9, rfl, h9⟩ := cons_of l8 h8
    obtain ⟨x10, l10, rfl, h10⟩ := cons_of l9 h9
    obtain ⟨x11, l11, rfl, h11⟩ := cons_of l10 h10
    obtain ⟨x12, l12, rfl, h12⟩ := cons_of l11 h11
    obtain ⟨x13, l13, rfl, h13⟩ := cons_of l12 h12
    obtain rfl := List.eq_nil_of_length_eq_zero h13
    clear h0 h1 h2 h3 h4 h5 h6 h7 h8 h9 h10 h11 h12 h13
    have HB : Hid (BAt n s) := hb
    have hle := hb.le
    have s1 : (64 : Int) ≤ (s : Int) := by omega
    have s2 : (s : Int) ≤ 2048 := by omega
    have HM : Hid (sizeMu { tmps := (.int .i64 n :: u1 :: u2 :: u3 :: .int .i64 s :: [x1, x2, x3, x4, x5, x6, x7, x8, x9, x10, x11, x12, x13]).toArray, defers := [] } w' = 4096 - s) := by
      show 4096 - (intOf (Value.int .i64 s)).toNat = _
      simp [intOf]
    rw [HM.out]
    have HS : Hid (64 < s ∧ s ≤ 2048) := ⟨hs, hle.2⟩
    clear HM hb hle hs
    by_cases h1 : s < 2 + n
    · have h2 : (s : Int) < 2 + (n : Int) := by omega
      go_wp2_with fail
      go_step3
      have e2 : (s : Int) * 2 = ((s * 2 : Nat) : Int) := by omega
      rw [e2]
      refine ⟨rfl, ⟨s * 2, u1, u2, u3, [x1, x2, x3, x4, x5, x6, .int .i64 (s : Int), .int .i64 (n : Int), .int .i64 (2 + (n : Int)), .bool true, .int .i64 (s : Int), .int .i64 ((s * 2 : Nat) : Int), x13], HB.out.next HN.out (by omega), by have := HS.out; omega, rfl, rfl, rfl⟩, ?_⟩
      · show 4096 - (intOf (Value.int .i64 ((s * 2 : Nat) : Int))).toNat < _
        have := HS.out
        simp [intOf]
        omega
    · have h2 : ¬ (s : Int) < 2 + (n : Int) := by omega
      go_wp2_with fail
      simp only [Exit.jump]
      go_ret2
      have := HR.out s HB.out (by omega)
      exact ⟨by rw [← this]; rfl, rfl⟩
/-- Are all of them noughts? -/
def allN (l : List Nat) : Bool := l.all (fun x => x == 0)
theorem allN_iff {l : List Nat} : allN l = true ↔ ∀ x ∈ l, x = 0 := by simp [allN]
def nought (l : List Nat) (k : Nat) : Prop := ∀ i, i < k → Sp.nth l i = 0
theorem Src.get {w : World} {v : Value} {l : List Nat} (h : Src w v l) (i : Nat) (hi : i < l.length) : ∃ b o c, v = .slice (some ⟨b, o, none⟩) l.length c ∧ w.cell? ⟨b, o + i, none⟩ = some (.int .u8 (Sp.nth l i : Nat)) := by
  obtain ⟨_, ⟨rfl, rfl⟩ | ⟨ad, c, rfl, rfl⟩ | ⟨b, o, c, rfl, hc, hr⟩⟩ := h
  · simp at hi
  · simp at hi
  · exact ⟨b, o, c, rfl, hr i _ (ints_get .u8 l i hi)⟩
set_option maxHeartbeats 1000000 in
theorem noughts_any {l : List Nat} (v : Value) (w : World) (hv : Src w v l) (hl : l.length ≤ 100000) :
    Calls Try.prog 16 #[v] w fun e w' => e = .returned (.bool (allN l)) ∧ w' = w := by
  obtain ⟨R, hR⟩ : ∃ R, allN l = R := ⟨_, rfl⟩
  rw [hR]
  have HT : Hid (nought l l.length → R = true) := fun h => by
    rw [← hR, allN_iff]
    intro x hx
    obtain ⟨i, hi, rfl⟩ := List.mem_iff_getElem.1 hx
    have := h i hi
    simpa [Sp.nth, hi] using this
  have HF : Hid (∀ i, i < l.length → Sp.nth l i ≠ 0 → R = false) := fun i hi h => by
    rw [← hR, Bool.eq_false_iff, Ne, allN_iff]
    intro h2
    apply h
    simp only [Sp.nth, List.getD_eq_getElem?_getD, List.getElem?_eq_getElem hi, Option.getD_some]
    exact h2 _ (List.getElem_mem hi)
  obtain ⟨p, c, rfl, -⟩ := hv.slice
  have HV : Hid (∀ i, i < l.length → ∃ b o, p = some ⟨b, o, none⟩ ∧ w.cell? ⟨b, o + i, none⟩ = some (.int .u8 (Sp.nth l i : Nat))) := fun i hi => by
    obtain ⟨b, o, c', e, h⟩ := hv.get i hi
    cases e
    exact ⟨b, o, rfl, h⟩
  have HS : Hid (∀ i, Sp.nth l i < 256) := fun i => Sp.nth_lt (by decide) hv.small i
  obtain ⟨n, HN⟩ : ∃ n, Hid (l.length = n) := ⟨_, rfl⟩
  rw [HN.out] at HT HF HV hl ⊢
  have n1 : (n : Int) ≤ 100000 := by omega
  clear hv hl hR
  go_enter Try.func16, Try.ntmps16
  go_wp2_with fail
  go_loopw [7] (fun i wr => ∃ j : Nat, j ≤ n ∧ i = .int .i64 j ∧ Hid (nought l j) ∧ wr = w) (fun i _ => n - (intOf i).toNat)
  case atStart => exact ⟨0, by omega, rfl, fun i hi => by omega, rfl⟩
  case round =>
    obtain ⟨j, hj, rfl, HO, rfl⟩ := hrel
    by_cases hlt : j < n
    · obtain ⟨b, o, rfl, hc⟩ := HV.out j hlt
      have hx := HS.out j
      obtain ⟨x, HX⟩ : ∃ x, Hid (Sp.nth l j = x) := ⟨_, rfl⟩
      rw [HX.out] at hc hx
      have j1 : (j : Int) < (n : Int) := by omega
      have j0 : (0 : Int) ≤ (j : Int) := by omega
      by_cases hz : x = 0
      · subst hz
        have HO2 : Hid (nought l (j + 1)) := fun i hi => by
          by_cases h : i < j
          · exact HO.out i h
          · rw [show i = j by omega]; exact HX.out
        clear HO HX
        go_wp2_with fail
        go_roundw
        case rel => exact ⟨j + 1, by omega, by go_num, HO2.out, trivial⟩
        case measure => simp [intOf]; omega
      · have hz2 : ¬ (x : Int) = 0 := by omega
        have := HF.out j hlt (by rw [HX.out]; exact hz)
        subst this
        clear HO HX
        go_wp2_with fail
        go_ret
        exact ⟨rfl, rfl⟩
    · obtain rfl : j = n := by omega
      have := HT.out HO.out
      subst this
      have j1 : ¬ (j : Int) < (j : Int) := by omega
      clear HO
      go_wp2_with fail
      go_ret
      exact ⟨rfl, rfl⟩
end Go.Proofs.Ytedbfhbmpeogdaa.C8
