/- CodeCuts: early ways out. -/
import Derived.Test.YtcpojjhopbcjkaaC8CutsR
namespace Go.Proofs.Ytcpojjhopbcjkaa.C8
open Go.RowKit
set_option maxHeartbeats 1000000 in
theorem cuts_e1 (ps : List Pt) (a : Option Addr) (n c : Nat) (cut : Int) (ma : Option Addr) (mn mc : Nat) (w : World) (hn : ps.length = n) (gn : n ≤ 9223372036854775807) (hp : PartRow w a ps) (hs : sm ps = false) :
    Calls Try.prog 5 #[.slice a n c, .int .i64 cut, .slice ma mn mc] w fun e w' => e = .returned (.bool true) ∧ Below w.heap.size w w' := by
  have hA : Below w.heap.size w (w.alloc (Obj.cells #[.slice a n c] 22)) := (Below.refl _ w).alloc (Nat.le_refl _) _
  have hbx : (w.alloc (Obj.cells #[.slice a n c] 22)).cell? ⟨w.heap.size, 0, none⟩ = some (.slice a n c) := by rw [cell_of_row _ _ _ _ _ _ (heap_alloc_new w _)]; rfl
  have HC9 : ∀ W, W = w.alloc (Obj.cells #[.slice a n c] 22) → Calls Try.prog 9 #[] W fun e w' => e = .returned (.bool true) ∧ Hid (Below w.heap.size w w') ∧ Hid (w.heap.size < w'.heap.size) ∧ w'.cell? ⟨w.heap.size, 0, none⟩ = some (.slice a n c) := by
    rintro W rfl
    refine (anchor_any _).mono ?_
    rintro e w' ⟨rfl, b⟩
    have hz : w.heap.size < (w.alloc (Obj.cells #[.slice a n c] 22)).heap.size := by simp
    exact ⟨rfl, hA.trans (bel_le b (Nat.le_of_lt hz)), Nat.lt_of_lt_of_le hz b.size, (b.cell (p := ⟨w.heap.size, 0, none⟩) hz).trans hbx⟩
  have HCS : ∀ W, Hid (Below w.heap.size w W) → Hid (w.heap.size < W.heap.size) → W.cell? ⟨w.heap.size, 0, none⟩ = some (.slice a n c) → Calls Try.prog 10 #[.slice a n c] W fun e w' => e = .returned (.bool (sm ps)) ∧ Hid (Below w.heap.size w w') ∧ Hid (w.heap.size < w'.heap.size) ∧ w'.cell? ⟨w.heap.size, 0, none⟩ = some (.slice a n c) := by
    intro W h1 h2 h3
    refine (small_any ps a n c W hn gn (hp.moved h1.out)).mono ?_
    rintro e w' ⟨rfl, b⟩
    exact ⟨rfl, h1.out.trans (bel_le b h1.out.size), Nat.lt_of_lt_of_le h2.out b.size, (b.cell (p := ⟨w.heap.size, 0, none⟩) h2.out).trans h3⟩
  clear hA hbx hp
  go_enter Try.func5, Try.ntmps5
  go_wp2_with (first | (go_at_call 9; refine (HC9 _ rfl).mono ?_; rintro e w0 ⟨rfl, B0, Z0, x0⟩))
  refine (HCS _ B0 Z0 x0).mono ?_
  rintro e w1 ⟨rfl, B1, Z1, x1⟩
  clear HC9 HCS x0 B0 Z0
  rw [hs]
  go_wp2_with fail
  go_ret
  exact ⟨rfl, B1.out⟩
set_option maxHeartbeats 1000000 in
theorem cuts_e2 (ps : List Pt) (a : Option Addr) (n c : Nat) (cut : Int) (ma : Option Addr) (mn mc : Nat) (w : World) (hn : ps.length = n) (gn : n ≤ 9223372036854775807) (hp : PartRow w a ps) (hs : sm ps = true) (h8 : 8 < n) :
    Calls Try.prog 5 #[.slice a n c, .int .i64 cut, .slice ma mn mc] w fun e w' => e = .returned (.bool true) ∧ Below w.heap.size w w' := by
  have hA : Below w.heap.size w (w.alloc (Obj.cells #[.slice a n c] 22)) := (Below.refl _ w).alloc (Nat.le_refl _) _
  have hbx : (w.alloc (Obj.cells #[.slice a n c] 22)).cell? ⟨w.heap.size, 0, none⟩ = some (.slice a n c) := by rw [cell_of_row _ _ _ _ _ _ (heap_alloc_new w _)]; rfl
  have HC9 : ∀ W, W = w.alloc (Obj.cells #[.slice a n c] 22) → Calls Try.prog 9 #[] W fun e w' => e = .returned (.bool true) ∧ Hid (Below w.heap.size w w') ∧ Hid (w.heap.size < w'.heap.size) ∧ w'.cell? ⟨w.heap.size, 0, none⟩ = some (.slice a n c) := by
    rintro W rfl
    refine (anchor_any _).mono ?_
    rintro e w' ⟨rfl, b⟩
    have hz : w.heap.size < (w.alloc (Obj.cells #[.slice a n c] 22)).heap.size := by simp
    exact ⟨rfl, hA.trans (bel_le b (Nat.le_of_lt hz)), Nat.lt_of_lt_of_le hz b.size, (b.cell (p := ⟨w.heap.size, 0, none⟩) hz).trans hbx⟩
  have HCS : ∀ W, Hid (Below w.heap.size w W) → Hid (w.heap.size < W.heap.size) → W.cell? ⟨w.heap.size, 0, none⟩ = some (.slice a n c) → Calls Try.prog 10 #[.slice a n c] W fun e w' => e = .returned (.bool (sm ps)) ∧ Hid (Below w.heap.size w w') ∧ Hid (w.heap.size < w'.heap.size) ∧ w'.cell? ⟨w.heap.size, 0, none⟩ = some (.slice a n c) := by
    intro W h1 h2 h3
    refine (small_any ps a n c W hn gn (hp.moved h1.out)).mono ?_
    rintro e w' ⟨rfl, b⟩
    exact ⟨rfl, h1.out.trans (bel_le b h1.out.size), Nat.lt_of_lt_of_le h2.out b.size, (b.cell (p := ⟨w.heap.size, 0, none⟩) h2.out).trans h3⟩
  have i8 : (8 : Int) < (n : Int) := by omega
  clear hA hbx hp
  go_enter Try.func5, Try.ntmps5
  go_wp2_with (first | (go_at_call 9; refine (HC9 _ rfl).mono ?_; rintro e w0 ⟨rfl, B0, Z0, x0⟩))
  refine (HCS _ B0 Z0 x0).mono ?_
  rintro e w1 ⟨rfl, B1, Z1, x1⟩
  clear HC9 HCS x0 B0 Z0
  rw [hs]
  go_wp2_with fail
  go_ret
  exact ⟨rfl, B1.out⟩
set_option maxHeartbeats 1000000 in
theorem cuts_e3 (ps : List Pt) (a : Option Addr) (n c : Nat) (cut : Int) (ma : Option Addr) (mn mc : Nat) (w : World) (hn : ps.length = n) (gn : n ≤ 9223372036854775807) (hp : PartRow w a ps) (hs : sm ps = true) (h8 : n ≤ 8) (h0 : cut < 0) :
    Calls Try.prog 5 #[.slice a n c, .int .i64 cut, .slice ma mn mc] w fun e w' => e = .returned (.bool true) ∧ Below w.heap.size w w' := by
  have hA : Below w.heap.size w (w.alloc (Obj.cells #[.slice a n c] 22)) := (Below.refl _ w).alloc (Nat.le_refl _) _
  have hbx : (w.alloc (Obj.cells #[.slice a n c] 22)).cell? ⟨w.heap.size, 0, none⟩ = some (.slice a n c) := by rw [cell_of_row _ _ _ _ _ _ (heap_alloc_new w _)]; rfl
  have HC9 : ∀ W, W = w.alloc (Obj.cells #[.slice a n c] 22) → Calls Try.prog 9 #[] W fun e w' => e = .returned (.bool true) ∧ Hid (Below w.heap.size w w') ∧ Hid (w.heap.size < w'.heap.size) ∧ w'.cell? ⟨w.heap.size, 0, none⟩ = some (.slice a n c) := by
    rintro W rfl
    refine (anchor_any _).mono ?_
    rintro e w' ⟨rfl, b⟩
    have hz : w.heap.size < (w.alloc (Obj.cells #[.slice a n c] 22)).heap.size := by simp
    exact ⟨rfl, hA.trans (bel_le b (Nat.le_of_lt hz)), Nat.lt_of_lt_of_le hz b.size, (b.cell (p := ⟨w.heap.size, 0, none⟩) hz).trans hbx⟩
  have HCS : ∀ W, Hid (Below w.heap.size w W) → Hid (w.heap.size < W.heap.size) → W.cell? ⟨w.heap.size, 0, none⟩ = some (.slice a n c) → Calls Try.prog 10 #[.slice a n c] W fun e w' => e = .returned (.bool (sm ps)) ∧ Hid (Below w.heap.size w w') ∧ Hid (w.heap.size < w'.heap.size) ∧ w'.cell? ⟨w.heap.size, 0, none⟩ = some (.slice a n c) := by
    intro W h1 h2 h3
    refine (small_any ps a n c W hn gn (hp.moved h1.out)).mono ?_
    rintro e w' ⟨rfl, b⟩
    exact ⟨rfl, h1.out.trans (bel_le b h1.out.size), Nat.lt_of_lt_of_le h2.out b.size, (b.cell (p := ⟨w.heap.size, 0, none⟩) h2.out).trans h3⟩
  have i8 : (n : Int) ≤ 8 := by omega
  clear hA hbx hp
  go_enter Try.func5, Try.ntmps5
  go_wp2_with (first | (go_at_call 9; refine (HC9 _ rfl).mono ?_; rintro e w0 ⟨rfl, B0, Z0, x0⟩))
  refine (HCS _ B0 Z0 x0).mono ?_
  rintro e w1 ⟨rfl, B1, Z1, x1⟩
  clear HC9 HCS x0 B0 Z0
  rw [hs]
  go_wp2_with fail
  go_ret
  exact ⟨rfl, B1.out⟩
set_option maxHeartbeats 1000000 in
theorem cuts_e4 (ps : List Pt) (a : Option Addr) (n c : Nat) (cut : Int) (ma : Option Addr) (mn mc : Nat) (w : World) (hn : ps.length = n) (gn : n ≤ 9223372036854775807) (hp : PartRow w a ps) (hs : sm ps = true) (h8 : n ≤ 8) (h0 : ¬ cut < 0) (hm : 100 < mn) (gm : mn ≤ 9223372036854775807) :
    Calls Try.prog 5 #[.slice a n c, .int .i64 cut, .slice ma mn mc] w fun e w' => e = .returned (.bool true) ∧ Below w.heap.size w w' := by
  have hA : Below w.heap.size w (w.alloc (Obj.cells #[.slice a n c] 22)) := (Below.refl _ w).alloc (Nat.le_refl _) _
  have hbx : (w.alloc (Obj.cells #[.slice a n c] 22)).cell? ⟨w.heap.size, 0, none⟩ = some (.slice a n c) := by rw [cell_of_row _ _ _ _ _ _ (heap_alloc_new w _)]; rfl
  have HC9 : ∀ W, W = w.alloc (Obj.cells #[.slice a n c] 22) → Calls Try.prog 9 #[] W fun e w' => e = .returned (.bool true) ∧ Hid (Below w.heap.size w w') ∧ Hid (w.heap.size < w'.heap.size) ∧ w'.cell? ⟨w.heap.size, 0, none⟩ = some (.slice a n c) := by
    rintro W rfl
    refine (anchor_any _).mono ?_
    rintro e w' ⟨rfl, b⟩
    have hz : w.heap.size < (w.alloc (Obj.cells #[.slice a n c] 22)).heap.size := by simp
    exact ⟨rfl, hA.trans (bel_le b (Nat.le_of_lt hz)), Nat.lt_of_lt_of_le hz b.size, (b.cell (p := ⟨w.heap.size, 0, none⟩) hz).trans hbx⟩
  have HCS : ∀ W, Hid (Below w.heap.size w W) → Hid (w.heap.size < W.heap.size) → W.cell? ⟨w.heap.size, 0, none⟩ = some (.slice a n c) → Calls Try.prog 10 #[.slice a n c] W fun e w' => e = .returned (.bool (sm ps)) ∧ Hid (Below w.heap.size w w') ∧ Hid (w.heap.size < w'.heap.size) ∧ w'.cell? ⟨w.heap.size, 0, none⟩ = some (.slice a n c) := by
    intro W h1 h2 h3
    refine (small_any ps a n c W hn gn (hp.moved h1.out)).mono ?_
    rintro e w' ⟨rfl, b⟩
    exact ⟨rfl, h1.out.trans (bel_le b h1.out.size), Nat.lt_of_lt_of_le h2.out b.size, (b.cell (p := ⟨w.heap.size, 0, none⟩) h2.out).trans h3⟩
  have i8 : (n : Int) ≤ 8 := by omega
  have i9 : (100 : Int) < (mn : Int) := by omega
  clear hA hbx hp
  go_enter Try.func5, Try.ntmps5
  go_wp2_with (first | (go_at_call 9; refine (HC9 _ rfl).mono ?_; rintro e w0 ⟨rfl, B0, Z0, x0⟩))
  refine (HCS _ B0 Z0 x0).mono ?_
  rintro e w1 ⟨rfl, B1, Z1, x1⟩
  clear HC9 HCS x0 B0 Z0
  rw [hs]
  go_wp2_with fail
  go_ret
  exact ⟨rfl, B1.out⟩
end Go.Proofs.Ytcpojjhopbcjkaa.C8
