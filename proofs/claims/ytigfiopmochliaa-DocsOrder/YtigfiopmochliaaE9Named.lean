/- The contract of named. -/
import Derived.Test.YtigfiopmochliaaE9Kind
namespace Go.Proofs.Ytigfiopmochliaa.E9
open Go.RowKit C8
theorem mid3 (w : World) (A B C : Obj) : (((w.alloc A).alloc B).alloc C).heap[w.heap.size + 1]? = some B := by
  rw [Below.heap_alloc _ _ _ (by simp)]
  exact heap_alloc2_new w A B
theorem bel3 (w : World) (A B C : Obj) : Below w.heap.size w (((w.alloc A).alloc B).alloc C) :=
  ((bel_alloc (Nat.le_refl _) A).trans (bel_alloc (by simp) B)).trans (bel_alloc (by simp; omega) C)
set_option maxHeartbeats 1000000 in
theorem nm1 (w : World) (a2 a3 a6 a7 a8 : Int) (np vp q : Option Addr) (nc n4 vc n5 c n9 : Nat)  :
    Calls Try.prog 35 #[.agg #[.int .i64 1, .int .i64 a2, .int .i64 a3, .slice np n4 nc, .slice vp n5 vc, .int .i64 a6, .int .i64 a7, .int .i64 a8, .slice q n9 c]] w fun e w' => e = .returned (.agg #[.int .i64 1, .int .i64 a2, .int .i64 a3, .slice np n4 nc, .slice vp n5 vc, .int .i64 0, .int .i64 0, .int .i64 0, .slice none 0 0]) ∧ Below w.heap.size w w' := by
  go_enter Try.func35, Try.ntmps35
  go_wp2_with fail
  all_goals go_region
  all_goals go_wp2_with fail
  all_goals (try simp only [Exit.inBlock, Exit.then])
  all_goals refine bodyPost_ret (results_cell_row rfl _ _ (w.heap.size + 1) 30 _ (0, 0) _ rfl (mid3 w _ _ _) Try.underlying30 rfl (by kernel_rfl)) rfl ⟨rfl, (bel3 w _ _ _).drew⟩
set_option maxHeartbeats 1000000 in
theorem nm2 (w : World) (a2 a3 a6 a7 a8 : Int) (np vp q : Option Addr) (nc n4 vc n5 c n9 : Nat)  :
    Calls Try.prog 35 #[.agg #[.int .i64 2, .int .i64 a2, .int .i64 a3, .slice np n4 nc, .slice vp n5 vc, .int .i64 a6, .int .i64 a7, .int .i64 a8, .slice q n9 c]] w fun e w' => e = .returned (.agg #[.int .i64 2, .int .i64 a2, .int .i64 a3, .slice np n4 nc, .slice none 0 0, .int .i64 0, .int .i64 0, .int .i64 0, .slice none 0 0]) ∧ Below w.heap.size w w' := by
  go_enter Try.func35, Try.ntmps35
  go_wp2_with fail
  (try simp only [Exit.inBlock, Exit.then])
  refine bodyPost_ret (results_cell_row rfl _ _ (w.heap.size + 1) 30 _ (0, 0) _ rfl (mid3 w _ _ _) Try.underlying30 rfl (by kernel_rfl)) rfl ⟨rfl, bel3 w _ _ _⟩
set_option maxHeartbeats 1000000 in
theorem nm3 (w : World) (a2 a3 a6 a7 a8 : Int) (np vp q : Option Addr) (nc n4 vc n5 c n9 : Nat)  :
    Calls Try.prog 35 #[.agg #[.int .i64 3, .int .i64 a2, .int .i64 a3, .slice np n4 nc, .slice vp n5 vc, .int .i64 a6, .int .i64 a7, .int .i64 a8, .slice q n9 c]] w fun e w' => e = .returned (.agg #[.int .i64 3, .int .i64 a2, .int .i64 a3, .slice none 0 0, .slice none 0 0, .int .i64 a6, .int .i64 a7, .int .i64 0, .slice none 0 0]) ∧ Below w.heap.size w w' := by
  go_enter Try.func35, Try.ntmps35
  go_wp2_with fail
  all_goals go_region
  all_goals go_wp2_with fail
  all_goals (try simp only [Exit.inBlock, Exit.then])
  all_goals refine bodyPost_ret (results_cell_row rfl _ _ (w.heap.size + 1) 30 _ (0, 0) _ rfl (mid3 w _ _ _) Try.underlying30 rfl (by kernel_rfl)) rfl ⟨rfl, (bel3 w _ _ _).drew⟩
set_option maxHeartbeats 1000000 in
theorem nm4 (w : World) (a2 a3 a6 a7 a8 : Int) (np vp q : Option Addr) (nc n4 vc n5 c n9 : Nat)  :
    Calls Try.prog 35 #[.agg #[.int .i64 4, .int .i64 a2, .int .i64 a3, .slice np n4 nc, .slice vp n5 vc, .int .i64 a6, .int .i64 a7, .int .i64 a8, .slice q n9 c]] w fun e w' => e = .returned (.agg #[.int .i64 4, .int .i64 a2, .int .i64 a3, .slice none 0 0, .slice none 0 0, .int .i64 a6, .int .i64 0, .int .i64 0, .slice none 0 0]) ∧ Below w.heap.size w w' := by
  go_enter Try.func35, Try.ntmps35
  go_wp2_with fail
  (try simp only [Exit.inBlock, Exit.then])
  refine bodyPost_ret (results_cell_row rfl _ _ (w.heap.size + 1) 30 _ (0, 0) _ rfl (mid3 w _ _ _) Try.underlying30 rfl (by kernel_rfl)) rfl ⟨rfl, bel3 w _ _ _⟩
set_option maxHeartbeats 1000000 in
theorem nm5 (w : World) (a2 a3 a6 a7 a8 : Int) (np vp q : Option Addr) (nc n4 vc n5 c n9 : Nat)  :
    Calls Try.prog 35 #[.agg #[.int .i64 5, .int .i64 a2, .int .i64 a3, .slice np n4 nc, .slice vp n5 vc, .int .i64 a6, .int .i64 a7, .int .i64 a8, .slice q n9 c]] w fun e w' => e = .returned (.agg #[.int .i64 5, .int .i64 a2, .int .i64 a3, .slice none 0 0, .slice none 0 0, .int .i64 0, .int .i64 0, .int .i64 a8, .slice q n9 c]) ∧ Below w.heap.size w w' := by
  go_enter Try.func35, Try.ntmps35
  go_wp2_with fail
  all_goals go_region
  all_goals go_wp2_with fail
  all_goals (try simp only [Exit.inBlock, Exit.then])
  all_goals refine bodyPost_ret (results_cell_row rfl _ _ (w.heap.size + 1) 30 _ (0, 0) _ rfl (mid3 w _ _ _) Try.underlying30 rfl (by kernel_rfl)) rfl ⟨rfl, (bel3 w _ _ _).drew⟩
set_option maxHeartbeats 1000000 in
theorem nm0 (w : World) (a1 a2 a3 a6 a7 a8 : Int) (np vp q : Option Addr) (nc n4 vc n5 c n9 : Nat) (k1 : ¬ a1 = 1) (k2 : ¬ a1 = 2) (k3 : ¬ a1 = 3) (k4 : ¬ a1 = 4) (k5 : ¬ a1 = 5) :
    Calls Try.prog 35 #[.agg #[.int .i64 a1, .int .i64 a2, .int .i64 a3, .slice np n4 nc, .slice vp n5 vc, .int .i64 a6, .int .i64 a7, .int .i64 a8, .slice q n9 c]] w fun e w' => e = .returned (.agg #[.int .i64 a1, .int .i64 a2, .int .i64 a3, .slice none 0 0, .slice none 0 0, .int .i64 0, .int .i64 0, .int .i64 0, .slice none 0 0]) ∧ Below w.heap.size w w' := by
  have z1 : (a1 == 1) = false := by simp [k1]
  have z2 : (a1 == 2) = false := by simp [k2]
  have z3 : (a1 == 3) = false := by simp [k3]
  have z4 : (a1 == 4) = false := by simp [k4]
  have z5 : (a1 == 5) = false := by simp [k5]
  go_enter Try.func35, Try.ntmps35
  go_wp2_with fail
  (try simp only [Exit.inBlock, Exit.then])
  refine bodyPost_ret (results_cell_row rfl _ _ (w.heap.size + 1) 30 _ (0, 0) _ rfl (mid3 w _ _ _) Try.underlying30 rfl (by kernel_rfl)) rfl ⟨rfl, bel3 w _ _ _⟩
theorem EnAt.mk0 {w : World} {e : En} {np : Option Addr} {nc : Nat} {vp : Option Addr} {vc : Nat} {q : Option Addr} (h1 : Src w (.slice np e.name.length nc) e.name) (h2 : Src w (.slice vp e.value.length vc) e.value) (h3 : WrRow w q e.wraps) (ln : e.name.length ≤ 9223372036854775807) (lv : e.value.length ≤ 9223372036854775807) (lw : e.wraps.length ≤ 9223372036854775807) : EnAt w e np nc vp vc q := ⟨h1, h2, h3, ln, lv, lw⟩
theorem named_any (a : En) (va : Value) (w : World) (ha : EnIs w va a) :
    Calls Try.prog 35 #[va] w fun e w' => ∃ v, e = .returned v ∧ EnIs w' v (named a) ∧ Below w.heap.size w w' := by
  obtain ⟨np, nc, vp, vc, q, c, rfl, ha⟩ := ha
  obtain ⟨a1, a2, a3, a4, a5, a6, a7, a8, a9⟩ := a
  simp only [EnV]
  have Z : ∀ W : World, Src W (.slice none 0 0) [] := fun W => Src.nil W
  have lz : ([] : List Nat).length ≤ 9223372036854775807 := by simp
  have lz' : ([] : List (Int × List Nat)).length ≤ 9223372036854775807 := by simp
  unfold named
  simp only
  by_cases k1 : a1 = 1
  · subst k1
    rw [if_pos rfl]
    refine (nm1 w a2 a3 a6 a7 a8 np vp q nc _ vc _ c _).mono ?_
    rintro e w' ⟨rfl, hb⟩
    exact ⟨_, rfl, ⟨np, nc, vp, vc, none, 0, rfl, (ha.below hb).name, (ha.below hb).value, WrRow.nil _ _, ha.ln, ha.lv, lz'⟩, hb⟩
  rw [if_neg k1]
  by_cases k2 : a1 = 2
  · subst k2
    rw [if_pos rfl]
    refine (nm2 w a2 a3 a6 a7 a8 np vp q nc _ vc _ c _).mono ?_
    rintro e w' ⟨rfl, hb⟩
    exact ⟨_, rfl, ⟨np, nc, none, 0, none, 0, rfl, (ha.below hb).name, Z _, WrRow.nil _ _, ha.ln, lz, lz'⟩, hb⟩
  rw [if_neg k2]
  by_cases k3 : a1 = 3
  · subst k3
    rw [if_pos rfl]
    refine (nm3 w a2 a3 a6 a7 a8 np vp q nc _ vc _ c _).mono ?_
    rintro e w' ⟨rfl, hb⟩
    exact ⟨_, rfl, ⟨none, 0, none, 0, none, 0, rfl, Z _, Z _, WrRow.nil _ _, lz, lz, lz'⟩, hb⟩
  rw [if_neg k3]
  by_cases k4 : a1 = 4
  · subst k4
    rw [if_pos rfl]
    refine (nm4 w a2 a3 a6 a7 a8 np vp q nc _ vc _ c _).mono ?_
    rintro e w' ⟨rfl, hb⟩
    exact ⟨_, rfl, ⟨none, 0, none, 0, none, 0, rfl, Z _, Z _, WrRow.nil _ _, lz, lz, lz'⟩, hb⟩
  rw [if_neg k4]
  by_cases k5 : a1 = 5
  · subst k5
    rw [if_pos rfl]
    refine (nm5 w a2 a3 a6 a7 a8 np vp q nc _ vc _ c _).mono ?_
    rintro e w' ⟨rfl, hb⟩
    exact ⟨_, rfl, ⟨none, 0, none, 0, q, c, rfl, Z _, Z _, (ha.below hb).wraps, lz, lz, ha.lw⟩, hb⟩
  rw [if_neg k5]
  refine (nm0 w a1 a2 a3 a6 a7 a8 np vp q nc _ vc _ c _ k1 k2 k3 k4 k5).mono ?_
  rintro e w' ⟨rfl, hb⟩
  exact ⟨_, rfl, ⟨none, 0, none, 0, none, 0, rfl, Z _, Z _, WrRow.nil _ _, lz, lz, lz'⟩, hb⟩
end Go.Proofs.Ytigfiopmochliaa.E9
