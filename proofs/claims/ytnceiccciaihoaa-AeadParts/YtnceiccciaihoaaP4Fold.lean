/- The contract of fold: what goes over is carried down until nothing does, by goto. -/
import Derived.Test.YtnceiccciaihoaaP4Number
namespace Go.Proofs.Ytnceiccciaihoaa.P4
open Go.RowKit
/-- The number that lies at a block. -/
def posAt (g : Nat) (w : World) : Nat := match w.heap[g]? with
  | some (.cells cs _ _) => Po.pos Po.B (cs.toList.map fun v => (intOf v).toNat)
  | _ => 0
theorem posAt_of {w : World} {g : Nat} {n : List Nat} (h : WAt w g n) : posAt g w = Po.pos Po.B n := by
  unfold posAt
  rw [h]
  show Po.pos Po.B ((arr .u64 n).toList.map fun v => (intOf v).toNat) = _
  rw [arr_list, ints, List.map_map]
  congr 1
  rw [show ((fun v => (intOf v).toNat) ∘ fun (n : Nat) => Value.int IntKind.u64 (n : Int)) = id from by funext x; simp [intOf]]
  exact List.map_id n
theorem cons_of {n : Nat} : ∀ (l : List Value), l.length = n + 1 → ∃ x l', l = x :: l' ∧ l'.length = n
  | x :: l', h => ⟨x, l', rfl, by simpa using h⟩
structure FoldAt (w : World) (g : Nat) (n0 n : List Nat) (w' : World) : Prop where
  at_ : WAt w' g n
  len : n.length = 5
  bound : ∀ x ∈ n, x < 9223372036854775808
  same : Po.pos Po.B n % Po.P = Po.pos Po.B n0 % Po.P
  less : Po.pos Po.B n < Po.pos Po.B n0
  gr : w.grownBy w' (some g)
def foldJ (w : World) (g : Nat) (n0 : List Nat) (a' : Act) (w' : World) : Prop :=
  ∃ (n : List Nat) (l : List Value), FoldAt w g n0 n w' ∧ l.length = 15 ∧ a' = { tmps := (.pointer (some ⟨g, 0, none⟩) :: l).toArray, defers := [] }
def foldMu (g : Nat) (_ : Act) (w' : World) : Nat := posAt g w'
theorem fold_step {n d : List Nat} {ov : Nat} (h : Carried n d ov) (h0 : 0 < ov) :
    (d.set 0 (Sp.nth d 0 + 5 * ov)).length = 5 ∧ (∀ x ∈ d.set 0 (Sp.nth d 0 + 5 * ov), x < 9223372036854775808) ∧ Po.pos Po.B (d.set 0 (Sp.nth d 0 + 5 * ov)) % Po.P = Po.pos Po.B n % Po.P ∧ Po.pos Po.B (d.set 0 (Sp.nth d 0 + 5 * ov)) < Po.pos Po.B n := by
  obtain ⟨h1, h2, h3, hv⟩ := h
  have e := Po.pos_set Po.B d 0 (5 * ov) (by omega)
  rw [Nat.pow_zero, Nat.one_mul] at e
  refine ⟨by rw [List.length_set]; exact h1, fun x hx => ?_, ?_, ?_⟩
  · have := set_le (a := 67108864) (fun y hy => Nat.le_of_lt (h2 y hy)) (Nat.le_refl (5 * ov)) x hx
    omega
  · rw [e, ← h3, Nat.mul_comm (Po.B ^ 5) ov, Po.fold_mod]
  · rw [e, ← h3, Po.B5]
    have : (Po.P + 5) * ov = Po.P * ov + 5 * ov := Nat.add_mul _ _ _
    have : Po.P * 1 ≤ Po.P * ov := Nat.mul_le_mul_left _ h0
    have : 0 < Po.P := by decide
    omega
set_option maxHeartbeats 1000000 in
theorem fold_any (n : List Nat) (g : Nat) (w : World) (hg : WAt w g n) (hl : n.length = 5) (hn : ∀ x ∈ n, x < 9223372036854775808) :
    Calls Try.prog 40 #[.pointer (some ⟨g, 0, none⟩)] w fun e w' => e = .returned (.tuple #[]) ∧ ∃ d, Wide d ∧ Po.pos Po.B d % Po.P = Po.pos Po.B n % Po.P ∧ WAt w' g d ∧ w.grownBy w' (some g) := by
  have HC : Hid (Calls Try.prog 31 #[.pointer (some ⟨g, 0, none⟩)] w fun e w' => ∃ d o, e = .returned (.int .u64 (o : Nat)) ∧ Carried n d o ∧ WAt w' g d ∧ w.grownBy w' (some g)) := carry_any n g w hg hl hn
  clear hg hl hn
  go_enter Try.func40, Try.ntmps40
  refine wp_scope_jumps 0 (foldJ w g n) (foldMu g) rfl ?_ ?_
  · go_wp2_with fail
    go_step3
    go_wp2_with fail
    refine HC.out.mono ?_
    rintro e w1 ⟨d, ov, rfl, hcd, hw1, hg1⟩
    clear HC
    have HD : Hid (Carried n d ov) := hcd
    have H1 : Hid (WAt w1 g d) := hw1
    have G1 : Hid (w.grownBy w1 (some g)) := hg1
    have hv : ov < 274877906944 := hcd.2.2.2
    by_cases h0 : 0 < ov
    · have c0 := hw1.cell 0 (by rw [hcd.1]; decide)
      have f0 := hw1.may 0
      have x0 : Sp.nth d 0 < 67108864 := Sp.nth_lt (by decide) hcd.2.1 0
      obtain ⟨s1, s2, s3, s4⟩ := fold_step hcd h0
      have HF : Hid (FoldAt w g n (d.set 0 (Sp.nth d 0 + 5 * ov)) ((w1.setCell ⟨g, 0, none⟩ (.int .u64 ((Sp.nth d 0 + 5 * ov : Nat) : Int))).drew)) := ⟨hw1.set 0 _, s1, s2, s3, s4, grownBy_drewN (grownBy_set hg1 0 _) 1⟩
      clear s1 s2 s3 s4 hcd hw1 hg1 HD H1 G1
      generalize d.set 0 (Sp.nth d 0 + 5 * ov) = d2 at *
      generalize Sp.nth d 0 = y at *
      have e1 : ((y + 5 * ov : Nat) : Int) = (y : Int) + 5 * (ov : Int) := by omega
      rw [e1] at HF
      have o0 : (0 : Int) < (ov : Int) := by omega
      go_wp2_with fail
      go_region
      go_wp2_with fail
      go_step3
      exact ⟨rfl, d2, _, HF.out, rfl, rfl⟩
    · have h0' : ¬ (0 : Int) < (ov : Int) := by omega
      clear hcd hw1 hg1
      go_wp2_with fail
      simp only [Exit.jump]
      refine bodyPost_end (results_none rfl _ _ _) rfl ?_
      obtain rfl : ov = 0 := by omega
      obtain ⟨q1, q2, q3, _⟩ := HD.out
      rw [Nat.mul_zero, Nat.add_zero] at q3
      exact ⟨rfl, d, ⟨q1, q2⟩, by rw [q3], H1.out, G1.out⟩
  · rintro a' w' ⟨n1, l, hF, hll, rfl⟩
    obtain ⟨u1, l1, rfl, h1⟩ := cons_of l hll; clear hll
    obtain ⟨u2, l2, rfl, h2⟩ := cons_of l1 h1; clear h1
    obtain ⟨u3, l3, rfl, h3⟩ := cons_of l2 h2; clear h2
    obtain ⟨u4, l4, rfl, h4⟩ := cons_of l3 h3; clear h3
    obtain ⟨u5, l5, rfl, h5⟩ := cons_of l4 h4; clear h4
    obtain ⟨u6, l6, rfl, h6⟩ := cons_of l5 h5; clear h5
    obtain ⟨u7, l7, rfl, h7⟩ := cons_of l6 h6; clear h6
    obtain ⟨u8, l8, rfl, h8⟩ := cons_of l7 h7; clear h7
    obtain ⟨u9, l9, rfl, h9⟩ := cons_of l8 h8; clear h8
    obtain ⟨u10, l10, rfl, h10⟩ := cons_of l9 h9; clear h9
    obtain ⟨u11, l11, rfl, h11⟩ := cons_of l10 h10; clear h10
    obtain ⟨u12, l12, rfl, h12⟩ := cons_of l11 h11; clear h11
    obtain ⟨u13, l13, rfl, h13⟩ := cons_of l12 h12; clear h12
    obtain ⟨u14, l14, rfl, h14⟩ := cons_of l13 h13; clear h13
    obtain ⟨u15, l15, rfl, h15⟩ := cons_of l14 h14; clear h14
    obtain rfl := List.eq_nil_of_length_eq_zero h15; clear h15
    have HM : Hid (foldMu g { tmps := (.pointer (some ⟨g, 0, none⟩) :: [u1, u2, u3, u4, u5, u6, u7, u8, u9, u10, u11, u12, u13, u14, u15]).toArray, defers := [] } w' = Po.pos Po.B n1) := posAt_of hF.at_
    have HF0 : Hid (FoldAt w g n n1 w') := hF
    have HC : Hid (Calls Try.prog 31 #[.pointer (some ⟨g, 0, none⟩)] w' fun e w'' => ∃ d o, e = .returned (.int .u64 (o : Nat)) ∧ Carried n1 d o ∧ WAt w'' g d ∧ w'.grownBy w'' (some g)) := carry_any n1 g w' hF.at_ hF.len hF.bound
    clear hF
    rw [HM.out]
    clear HM
    go_wp2_with fail
    refine HC.out.mono ?_
    rintro e w1 ⟨d, ov, rfl, hcd, hw1, hg1⟩
    clear HC
    have HD : Hid (Carried n1 d ov) := hcd
    have H1 : Hid (WAt w1 g d) := hw1
    have G1 : Hid (w.grownBy w1 (some g)) := grownBy_trans HF0.out.gr hg1
    have hv : ov < 274877906944 := hcd.2.2.2
    by_cases h0 : 0 < ov
    · have c0 := hw1.cell 0 (by rw [hcd.1]; decide)
      have f0 := hw1.may 0
      have x0 : Sp.nth d 0 < 67108864 := Sp.nth_lt (by decide) hcd.2.1 0
      obtain ⟨s1, s2, s3, s4⟩ := fold_step hcd h0
      have HF : Hid (FoldAt w g n (d.set 0 (Sp.nth d 0 + 5 * ov)) ((w1.setCell ⟨g, 0, none⟩ (.int .u64 ((Sp.nth d 0 + 5 * ov : Nat) : Int))).drew)) := ⟨hw1.set 0 _, s1, s2, s3.trans HF0.out.same, Nat.lt_trans s4 HF0.out.less, grownBy_drewN (grownBy_set G1.out 0 _) 1⟩
      have HLT : Hid (Po.pos Po.B (d.set 0 (Sp.nth d 0 + 5 * ov)) < Po.pos Po.B n1) := s4
      clear s1 s2 s3 s4 hcd hw1 hg1 HD H1 G1 HF0
      generalize d.set 0 (Sp.nth d 0 + 5 * ov) = d2 at *
      generalize Sp.nth d 0 = y at *
      have e1 : ((y + 5 * ov : Nat) : Int) = (y : Int) + 5 * (ov : Int) := by omega
      rw [e1] at HF
      have o0 : (0 : Int) < (ov : Int) := by omega
      go_wp2_with fail
      go_region
      go_wp2_with fail
      go_step3
      refine ⟨rfl, ⟨d2, _, HF.out, rfl, rfl⟩, ?_⟩
      show posAt g _ < Po.pos Po.B n1
      rw [posAt_of HF.out.at_]
      exact HLT.out
    · have h0' : ¬ (0 : Int) < (ov : Int) := by omega
      clear hcd hw1 hg1
      go_wp2_with fail
      simp only [Exit.jump]
      refine bodyPost_end (results_none rfl _ _ _) rfl ?_
      obtain rfl : ov = 0 := by omega
      obtain ⟨q1, q2, q3, _⟩ := HD.out
      rw [Nat.mul_zero, Nat.add_zero] at q3
      exact ⟨rfl, d, ⟨q1, q2⟩, by rw [q3]; exact HF0.out.same, H1.out, G1.out⟩
end Go.Proofs.Ytnceiccciaihoaa.P4
