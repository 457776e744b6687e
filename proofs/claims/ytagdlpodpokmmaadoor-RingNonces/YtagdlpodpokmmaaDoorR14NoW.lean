/- RingNonces: the walk. -/
import Derived.Test.YtagdlpodpokmmaaDoorR14Anc
namespace Go.Proofs.YtagdlpodpokmmaaDoor.S7
open Go.RowKit
def okN (a b : Int) : Prop := 0 ≤ a ∧ a ≤ 4294967295 ∧ 0 ≤ b ∧ b ≤ 1099511627776
theorem nonce_bad (w : World) (a b : Int) (h : ¬ okN a b) : Calls Tryd.prog 16 #[.int .i64 a, .int .i64 b] w fun e w' => e = .returned (.tuple #[.slice none 0 0, .int .i64 12]) ∧ Below w.heap.size w w' := Nonce_bad w a b h
/-- What a nonce is, as a value: bytes and no error, or none and an error. -/
theorem nonce_is (w : World) (a b : Int) : Calls Tryd.prog 16 #[.int .i64 a, .int .i64 b] w fun e w' => (okN a b ∧ ∃ q c, e = .returned (.tuple #[.slice q 12 c, .int .i64 0]) ∧ Src w' (.slice q 12 c) (non a.toNat b.toNat) ∧ Below w.heap.size w w') ∨ (¬ okN a b ∧ e = .returned (.tuple #[.slice none 0 0, .int .i64 12]) ∧ Below w.heap.size w w') := by
  by_cases h : okN a b
  · obtain ⟨h1, h2, h3, h4⟩ := h
    have hh : okN a b := ⟨h1, h2, h3, h4⟩
    have e1 : ((a.toNat : Nat) : Int) = a := Int.toNat_of_nonneg h1
    have e2 : ((b.toNat : Nat) : Int) = b := Int.toNat_of_nonneg h3
    have hk := Nonce_ok w a.toNat b.toNat (by omega) (by omega)
    rw [e1, e2] at hk
    refine hk.mono ?_
    rintro e w' ⟨v, rfl, k1, k2⟩
    obtain ⟨q, c, rfl⟩ := own_slice k1
    exact .inl ⟨hh, q, c, rfl, Src.own (non_small _ _) k1, k2⟩
  · refine (Nonce_bad w a b h).mono ?_
    rintro e w' ⟨rfl, k⟩
    exact .inr ⟨h, rfl, k⟩
set_option maxHeartbeats 4000000 in
set_option maxRecDepth 10000 in
theorem nonces_any (w : World) (a b c d : Int) : Calls Tryd.prog 4 #[.int .i64 a, .int .i64 b, .int .i64 c, .int .i64 d] w fun e w' => e = .returned (.bool true) ∧ Below w.heap.size w w' := by
  go_enter Tryd.func4, Tryd.ntmps4
  go_wp2_with fail
  refine (anchor_any w).mono ?_
  rintro e w1 ⟨rfl, hb1⟩
  have HB1 : Hid (Below w.heap.size w w1) := hb1
  clear hb1
  go_wp2_with fail
  refine (nonce_is w1 a b).mono ?_
  rintro e w2 (⟨h1, q1, c1, rfl, hs1, hb2⟩ | ⟨h1, rfl, hb2⟩)
  · have HB2 : Hid (Below w.heap.size w w2 ∧ Src w2 (.slice q1 12 c1) (non a.toNat b.toNat) ∧ okN a b) := ⟨HB1.out.trans (hb2.mono HB1.out.size), hs1, h1⟩
    clear h1 hs1 hb2 HB1
    go_wp2_with fail
    refine (nonce_is w2 c d).mono ?_
    rintro e w3 (⟨h2, q2, c2, rfl, hs2, hb3⟩ | ⟨h2, rfl, hb3⟩)
    · have HB3 : Hid (Below w.heap.size w w3) := HB2.out.1.trans (hb3.mono HB2.out.1.size)
      have hc1 := conv_src (HB2.out.2.1.below hb3)
      have hc2 := conv_src hs2
      have h1 := HB2.out.2.2
      have HQ : Hid (((strB (non a.toNat b.toNat)).toList == (strB (non c.toNat d.toNat)).toList) = decide (a = c ∧ b = d)) := by
        have := strB_beqL (non_small a.toNat b.toNat) (non_small c.toNat d.toNat)
        refine this.trans ?_
        by_cases hh : a = c ∧ b = d
        · obtain ⟨rfl, rfl⟩ := hh
          simp
        · rw [decide_eq_false hh, decide_eq_false]
          intro e
          obtain ⟨h3, h4, h5, h6⟩ := h1
          obtain ⟨h7, h8, h9, h10⟩ := h2
          have := non_inj (by omega) (by omega) (by omega) (by omega) e
          exact hh (by omega)
      clear h1 h2 hs2 hb3 HB2
      by_cases hac : a = c
      · have e1 : (a == c) = true := by simpa using hac
        by_cases hbd : b = d
        · have e2 : (b == d) = true := by simpa using hbd
          have hq : ((strB (non a.toNat b.toNat)).toList == (strB (non c.toNat d.toNat)).toList) = true := by rw [HQ.out, decide_eq_true ⟨hac, hbd⟩]
          clear HQ hac hbd
          generalize strB (non a.toNat b.toNat) = s1 at *
          generalize strB (non c.toNat d.toNat) = s2 at *
          go_wp2_with fail
          go_ret
          exact ⟨rfl, HB3.out⟩
        · have e2 : (b == d) = false := by simpa using hbd
          have hq : ((strB (non a.toNat b.toNat)).toList == (strB (non c.toNat d.toNat)).toList) = false := by rw [HQ.out, decide_eq_false (fun e => hbd e.2)]
          clear HQ hac
          generalize strB (non a.toNat b.toNat) = s1 at *
          generalize strB (non c.toNat d.toNat) = s2 at *
          go_wp2_with fail
          go_ret
          exact ⟨rfl, HB3.out⟩
      · have e1 : (a == c) = false := by simpa using hac
        have hq : ((strB (non a.toNat b.toNat)).toList == (strB (non c.toNat d.toNat)).toList) = false := by rw [HQ.out, decide_eq_false (fun e => hac e.1)]
        clear HQ
        generalize strB (non a.toNat b.toNat) = s1 at *
        generalize strB (non c.toNat d.toNat) = s2 at *
        go_wp2_with fail
        go_ret
        exact ⟨rfl, HB3.out⟩
    · have HB3 : Hid (Below w.heap.size w w3) := HB2.out.1.trans (hb3.mono HB2.out.1.size)
      clear h2 hb3 HB2
      go_wp2_with fail
      go_ret
      exact ⟨rfl, HB3.out⟩
  · have HB2 : Hid (Below w.heap.size w w2) := HB1.out.trans (hb2.mono HB1.out.size)
    clear h1 hb2 HB1
    go_wp2_with fail
    refine (nonce_is w2 c d).mono ?_
    rintro e w3 (⟨h2, q2, c2, rfl, hs2, hb3⟩ | ⟨h2, rfl, hb3⟩)
    · have HB3 : Hid (Below w.heap.size w w3) := HB2.out.trans (hb3.mono HB2.out.size)
      clear h2 hs2 hb3 HB2
      go_wp2_with fail
      go_ret
      exact ⟨rfl, HB3.out⟩
    · have HB3 : Hid (Below w.heap.size w w3) := HB2.out.trans (hb3.mono HB2.out.size)
      clear h2 hb3 HB2
      go_wp2_with fail
      go_ret
      exact ⟨rfl, HB3.out⟩
end Go.Proofs.YtagdlpodpokmmaaDoor.S7
