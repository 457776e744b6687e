/- The contracts of quarter and mixed. -/
import Derived.Test.YtnceiccciaihoaaC3Leaves
namespace Go.Proofs.Ytnceiccciaihoaa.C3
open Go.RowKit
set_option maxHeartbeats 1000000 in
theorem quarter_any (s : List Nat) (g a b c d : Nat) (w : World) (hs : Ch.Ok s) (hg : StAt w g s) (ha : a < 16) (hb : b < 16) (hc : c < 16) (hd : d < 16) :
    Calls Try.prog 49 #[.pointer (some ⟨g, 0, none⟩), .int .i64 a, .int .i64 b, .int .i64 c, .int .i64 d] w fun e w' => e = .returned (.tuple #[]) ∧ StAt w' g (Ch.quarter s a b c d) ∧ w.grownBy w' (some g) := by
  have HS : Hid (Ch.Ok s) := hs
  have HG : Hid (StAt w g s) := hg
  clear hs hg
  go_enter Try.func49, Try.ntmps49
  go_wp2_with fail
  refine (step16 s g a b d w HS.out HG.out ha hb hd).mono ?_
  rintro e w1 ⟨rfl, h1, g1⟩
  have H1 : Hid (StAt w1 g (Ch.step s a b d 16)) := h1
  have G1 : Hid (w.grownBy w1 (some g)) := g1
  clear h1 g1
  go_wp2_with fail
  refine (step12 _ g c d b w1 (Ch.step_ok HS.out _ _ _ (by decide)) H1.out hc hd hb).mono ?_
  rintro e w2 ⟨rfl, h1, g1⟩
  have H2 : Hid (StAt w2 g (Ch.step (Ch.step s a b d 16) c d b 12)) := h1
  have G2 : Hid (w.grownBy w2 (some g)) := grownBy_trans G1.out g1
  clear h1 g1 G1 H1
  go_wp2_with fail
  refine (step8 _ g a b d w2 (Ch.step_ok (Ch.step_ok HS.out _ _ _ (by decide)) _ _ _ (by decide)) H2.out ha hb hd).mono ?_
  rintro e w3 ⟨rfl, h1, g1⟩
  have H3 : Hid (StAt w3 g (Ch.step (Ch.step (Ch.step s a b d 16) c d b 12) a b d 8)) := h1
  have G3 : Hid (w.grownBy w3 (some g)) := grownBy_trans G2.out g1
  clear h1 g1 G2 H2
  go_wp2_with fail
  refine (step7 _ g c d b w3 (Ch.step_ok (Ch.step_ok (Ch.step_ok HS.out _ _ _ (by decide)) _ _ _ (by decide)) _ _ _ (by decide)) H3.out hc hd hb).mono ?_
  rintro e w4 ⟨rfl, h1, g1⟩
  have H4 : Hid (StAt w4 g (Ch.quarter s a b c d)) := h1
  have G4 : Hid (w.grownBy w4 (some g)) := grownBy_trans G3.out g1
  clear h1 g1 G3 H3
  go_wp2_with fail
  go_end0
  exact ⟨rfl, H4.out, G4.out⟩
theorem q_0_4 (s : List Nat) (g : Nat) (w : World) (hs : Ch.Ok s) (hg : StAt w g s) :
    Calls Try.prog 49 #[.pointer (some ⟨g, 0, none⟩), .int .i64 0, .int .i64 4, .int .i64 8, .int .i64 12] w fun e w' => e = .returned (.tuple #[]) ∧ StAt w' g (Ch.quarter s 0 4 8 12) ∧ w.grownBy w' (some g) :=
  quarter_any s g 0 4 8 12 w hs hg (by decide) (by decide) (by decide) (by decide)
theorem q_1_5 (s : List Nat) (g : Nat) (w : World) (hs : Ch.Ok s) (hg : StAt w g s) :
    Calls Try.prog 49 #[.pointer (some ⟨g, 0, none⟩), .int .i64 1, .int .i64 5, .int .i64 9, .int .i64 13] w fun e w' => e = .returned (.tuple #[]) ∧ StAt w' g (Ch.quarter s 1 5 9 13) ∧ w.grownBy w' (some g) :=
  quarter_any s g 1 5 9 13 w hs hg (by decide) (by decide) (by decide) (by decide)
theorem q_2_6 (s : List Nat) (g : Nat) (w : World) (hs : Ch.Ok s) (hg : StAt w g s) :
    Calls Try.prog 49 #[.pointer (some ⟨g, 0, none⟩), .int .i64 2, .int .i64 6, .int .i64 10, .int .i64 14] w fun e w' => e = .returned (.tuple #[]) ∧ StAt w' g (Ch.quarter s 2 6 10 14) ∧ w.grownBy w' (some g) :=
  quarter_any s g 2 6 10 14 w hs hg (by decide) (by decide) (by decide) (by decide)
theorem q_3_7 (s : List Nat) (g : Nat) (w : World) (hs : Ch.Ok s) (hg : StAt w g s) :
    Calls Try.prog 49 #[.pointer (some ⟨g, 0, none⟩), .int .i64 3, .int .i64 7, .int .i64 11, .int .i64 15] w fun e w' => e = .returned (.tuple #[]) ∧ StAt w' g (Ch.quarter s 3 7 11 15) ∧ w.grownBy w' (some g) :=
  quarter_any s g 3 7 11 15 w hs hg (by decide) (by decide) (by decide) (by decide)
theorem q_0_5 (s : List Nat) (g : Nat) (w : World) (hs : Ch.Ok s) (hg : StAt w g s) :
    Calls Try.prog 49 #[.pointer (some ⟨g, 0, none⟩), .int .i64 0, .int .i64 5, .int .i64 10, .int .i64 15] w fun e w' => e = .returned (.tuple #[]) ∧ StAt w' g (Ch.quarter s 0 5 10 15) ∧ w.grownBy w' (some g) :=
  quarter_any s g 0 5 10 15 w hs hg (by decide) (by decide) (by decide) (by decide)
theorem q_1_6 (s : List Nat) (g : Nat) (w : World) (hs : Ch.Ok s) (hg : StAt w g s) :
    Calls Try.prog 49 #[.pointer (some ⟨g, 0, none⟩), .int .i64 1, .int .i64 6, .int .i64 11, .int .i64 12] w fun e w' => e = .returned (.tuple #[]) ∧ StAt w' g (Ch.quarter s 1 6 11 12) ∧ w.grownBy w' (some g) :=
  quarter_any s g 1 6 11 12 w hs hg (by decide) (by decide) (by decide) (by decide)
theorem q_2_7 (s : List Nat) (g : Nat) (w : World) (hs : Ch.Ok s) (hg : StAt w g s) :
    Calls Try.prog 49 #[.pointer (some ⟨g, 0, none⟩), .int .i64 2, .int .i64 7, .int .i64 8, .int .i64 13] w fun e w' => e = .returned (.tuple #[]) ∧ StAt w' g (Ch.quarter s 2 7 8 13) ∧ w.grownBy w' (some g) :=
  quarter_any s g 2 7 8 13 w hs hg (by decide) (by decide) (by decide) (by decide)
theorem q_3_4 (s : List Nat) (g : Nat) (w : World) (hs : Ch.Ok s) (hg : StAt w g s) :
    Calls Try.prog 49 #[.pointer (some ⟨g, 0, none⟩), .int .i64 3, .int .i64 4, .int .i64 9, .int .i64 14] w fun e w' => e = .returned (.tuple #[]) ∧ StAt w' g (Ch.quarter s 3 4 9 14) ∧ w.grownBy w' (some g) :=
  quarter_any s g 3 4 9 14 w hs hg (by decide) (by decide) (by decide) (by decide)
end Go.Proofs.Ytnceiccciaihoaa.C3
