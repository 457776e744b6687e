/- The contracts of Apply and Get, and of the statements' own put and drop. -/
import Derived.Test.YtigfiopmochliaaD11Apply
import Derived.Test.YtigfiopmochliaaE9D4
import Derived.Laws.ResultCell
import Derived.Deep.QuietTactic
import Derived.BigQuiet
namespace Go.Proofs.Ytigfiopmochliaa.D11
open Go.RowKit C8 E9
theorem Apply_any (w : World) (p b : Nat) (L : Col) (a : En) (va : Value) (h : DcIs w p b L) (ha : EnIs w va a) (hf : L.length < 1000000) :
    Calls Try.prog 11 #[.pointer (some ⟨p, 0, none⟩), va] w fun e w' => ApSays w p b L a e w' := by
  cases hr : right a with
  | false => exact apply_wrong w p b L a va h ha hr
  | true =>
    by_cases k1 : a.kind = 1
    · exact apply_put w p b L a va h ha hf hr k1
    · by_cases k2 : a.kind = 2
      · cases hg : (get a.name L).isSome with
        | false => exact apply_none w p b L a va h ha hr k2 hg
        | true => exact apply_drop w p b L a va h ha hr k2 hg
      · exact apply_other w p b L a va h ha hr k1 k2
/-- The statements' entries. -/
def putE (k v : List Nat) : En := ⟨1, 1, 1, k, v, 0, 0, 0, []⟩
def dropE (k : List Nat) : En := ⟨2, 1, 1, k, [], 0, 0, 0, []⟩
set_option maxHeartbeats 4000000 in
theorem put_any (w : World) (k v : List Nat) (hk : ∀ x ∈ k, x < 256) (hv : ∀ x ∈ v, x < 256) (lk : k.length ≤ 9223372036854775807) (lv : v.length ≤ 9223372036854775807) :
    Calls Try.prog 21 #[.string (strB k), .string (strB v)] w fun e w' => ∃ va, e = .returned va ∧ EnIs w' va (putE k v) ∧ Below w.heap.size w w' := by
  obtain ⟨c1, w2, hr1, hs1, hb1⟩ := str_src (w.alloc (.cells #[.int .i64 0, .int .i64 0, .int .i64 0, .slice none 0 0, .slice none 0 0, .int .i64 0, .int .i64 0, .int .i64 0, .slice none 0 0] 30)) k hk
  obtain ⟨g1, hg1⟩ : ∃ g, g = (w.alloc (.cells #[.int .i64 0, .int .i64 0, .int .i64 0, .slice none 0 0, .slice none 0 0, .int .i64 0, .int .i64 0, .int .i64 0, .slice none 0 0] 30)).heap.size := ⟨_, rfl⟩
  rw [← hg1] at hr1 hs1 hb1
  obtain ⟨c2, w3, hr2, hs2, hb2⟩ := str_src w2 v hv
  obtain ⟨g2, hg2⟩ : ∃ g, g = w2.heap.size := ⟨_, rfl⟩
  rw [← hg2] at hr2 hs2 hb2
  have eg1 : g1 = w.heap.size + 1 := by rw [hg1]; simp
  have hsz1 : (w.alloc (.cells #[.int .i64 0, .int .i64 0, .int .i64 0, .slice none 0 0, .slice none 0 0, .int .i64 0, .int .i64 0, .int .i64 0, .slice none 0 0] 30)).heap.size = w.heap.size + 1 := by simp
  have hw2 := hb1.size
  rw [hsz1] at hw2
  have HLT : Hid (w.heap.size < g1 ∧ w.heap.size < g2) := ⟨by omega, by omega⟩
  have HZ : Hid (w3.heap[w.heap.size]? = some (.cells #[.int .i64 0, .int .i64 0, .int .i64 0, .slice none 0 0, .slice none 0 0, .int .i64 0, .int .i64 0, .int .i64 0, .slice none 0 0] 30 (0, 0))) := by
    refine (hb2.block _ (by rw [hg2]; omega)).trans ((hb1.block _ (by rw [hg1]; simp)).trans (heap_alloc_new w _))
  have HB3 : Hid (Below w.heap.size w w3) := ((bel_alloc (Nat.le_refl _) _).trans (bel_le hb1 (by rw [hg1]; simp))).trans (bel_le hb2 (by rw [hg2]; omega))
  have HS1 : Hid (Src w3 (.slice (some ⟨g1, 0, none⟩) k.length c1) k) := hs1.below (by rw [← hg2]; exact hb2)
  have HS2 : Hid (Src w3 (.slice (some ⟨g2, 0, none⟩) v.length c2) v) := hs2
  have HL : Hid (k.length ≤ 9223372036854775807 ∧ v.length ≤ 9223372036854775807) := ⟨lk, lv⟩
  clear hs1 hs2 hb1 hb2 hg1 hg2 hk hv lk lv hsz1 hw2 eg1
  have x0 : w3.cell? ⟨w.heap.size, 0, none⟩ = some (.int .i64 0) := by rw [cell_of_row _ _ _ _ _ _ HZ.out]; rfl
  have y0 : w3.frozen? ⟨w.heap.size, 0, none⟩ = false := frozen_of_row _ _ _ _ _ HZ.out
  have x1 : w3.cell? ⟨w.heap.size, 1, none⟩ = some (.int .i64 0) := by rw [cell_of_row _ _ _ _ _ _ HZ.out]; rfl
  have y1 : w3.frozen? ⟨w.heap.size, 1, none⟩ = false := frozen_of_row _ _ _ _ _ HZ.out
  have x2 : w3.cell? ⟨w.heap.size, 2, none⟩ = some (.int .i64 0) := by rw [cell_of_row _ _ _ _ _ _ HZ.out]; rfl
  have y2 : w3.frozen? ⟨w.heap.size, 2, none⟩ = false := frozen_of_row _ _ _ _ _ HZ.out
  have x3 : w3.cell? ⟨w.heap.size, 3, none⟩ = some (.slice none 0 0) := by rw [cell_of_row _ _ _ _ _ _ HZ.out]; rfl
  have y3 : w3.frozen? ⟨w.heap.size, 3, none⟩ = false := frozen_of_row _ _ _ _ _ HZ.out
  have x4 : w3.cell? ⟨w.heap.size, 4, none⟩ = some (.slice none 0 0) := by rw [cell_of_row _ _ _ _ _ _ HZ.out]; rfl
  have y4 : w3.frozen? ⟨w.heap.size, 4, none⟩ = false := frozen_of_row _ _ _ _ _ HZ.out
  have x5 : w3.cell? ⟨w.heap.size, 5, none⟩ = some (.int .i64 0) := by rw [cell_of_row _ _ _ _ _ _ HZ.out]; rfl
  have y5 : w3.frozen? ⟨w.heap.size, 5, none⟩ = false := frozen_of_row _ _ _ _ _ HZ.out
  have x6 : w3.cell? ⟨w.heap.size, 6, none⟩ = some (.int .i64 0) := by rw [cell_of_row _ _ _ _ _ _ HZ.out]; rfl
  have y6 : w3.frozen? ⟨w.heap.size, 6, none⟩ = false := frozen_of_row _ _ _ _ _ HZ.out
  have x7 : w3.cell? ⟨w.heap.size, 7, none⟩ = some (.int .i64 0) := by rw [cell_of_row _ _ _ _ _ _ HZ.out]; rfl
  have y7 : w3.frozen? ⟨w.heap.size, 7, none⟩ = false := frozen_of_row _ _ _ _ _ HZ.out
  have x8 : w3.cell? ⟨w.heap.size, 8, none⟩ = some (.slice none 0 0) := by rw [cell_of_row _ _ _ _ _ _ HZ.out]; rfl
  have y8 : w3.frozen? ⟨w.heap.size, 8, none⟩ = false := frozen_of_row _ _ _ _ _ HZ.out
  go_enter Try.func21, Try.ntmps21
  go_wp2_with fail
  refine bodyPost_ret (results_cell_row rfl _ _ w.heap.size 30 _ (0, 0) _ rfl (row9 HZ.out _ _ _ _ _ _ _ _ _) Try.underlying30 rfl (by kernel_rfl)) rfl ⟨_, rfl, ⟨some ⟨g1, 0, none⟩, c1, some ⟨g2, 0, none⟩, c2, none, 0, rfl, ?_⟩, bel9 HB3.out (Nat.le_refl _) _ _ _ _ _ _ _ _ _⟩
  have hl := HLT.out
  exact ⟨HS1.out.only (only9 w3 w.heap.size _ _ _ _ _ _ _ _ _) (Off.at (ad := ⟨g1, 0, none⟩) (by simp; omega)), HS2.out.only (only9 w3 w.heap.size _ _ _ _ _ _ _ _ _) (Off.at (ad := ⟨g2, 0, none⟩) (by simp; omega)), WrRow.nil _ _, HL.out.1, HL.out.2, by simp [putE]⟩
set_option maxHeartbeats 4000000 in
theorem drop_any (w : World) (k : List Nat) (hk : ∀ x ∈ k, x < 256) (lk : k.length ≤ 9223372036854775807) :
    Calls Try.prog 22 #[.string (strB k)] w fun e w' => ∃ va, e = .returned va ∧ EnIs w' va (dropE k) ∧ Below w.heap.size w w' := by
  obtain ⟨c1, w3, hr1, hs1, hb1⟩ := str_src (w.alloc (.cells #[.int .i64 0, .int .i64 0, .int .i64 0, .slice none 0 0, .slice none 0 0, .int .i64 0, .int .i64 0, .int .i64 0, .slice none 0 0] 30)) k hk
  obtain ⟨g1, hg1⟩ : ∃ g, g = (w.alloc (.cells #[.int .i64 0, .int .i64 0, .int .i64 0, .slice none 0 0, .slice none 0 0, .int .i64 0, .int .i64 0, .int .i64 0, .slice none 0 0] 30)).heap.size := ⟨_, rfl⟩
  rw [← hg1] at hr1 hs1 hb1
  have eg1 : g1 = w.heap.size + 1 := by rw [hg1]; simp
  have HLT : Hid (w.heap.size < g1) := (by omega : w.heap.size < g1)
  have HZ : Hid (w3.heap[w.heap.size]? = some (.cells #[.int .i64 0, .int .i64 0, .int .i64 0, .slice none 0 0, .slice none 0 0, .int .i64 0, .int .i64 0, .int .i64 0, .slice none 0 0] 30 (0, 0))) := (hb1.block _ (by rw [hg1]; simp)).trans (heap_alloc_new w _)
  have HB3 : Hid (Below w.heap.size w w3) := (bel_alloc (Nat.le_refl _) _).trans (bel_le hb1 (by rw [hg1]; simp))
  have HS1 : Hid (Src w3 (.slice (some ⟨g1, 0, none⟩) k.length c1) k) := hs1
  have HL : Hid (k.length ≤ 9223372036854775807) := lk
  clear hs1 hb1 hg1 hk lk eg1
  have x0 : w3.cell? ⟨w.heap.size, 0, none⟩ = some (.int .i64 0) := by rw [cell_of_row _ _ _ _ _ _ HZ.out]; rfl
  have y0 : w3.frozen? ⟨w.heap.size, 0, none⟩ = false := frozen_of_row _ _ _ _ _ HZ.out
  have x1 : w3.cell? ⟨w.heap.size, 1, none⟩ = some (.int .i64 0) := by rw [cell_of_row _ _ _ _ _ _ HZ.out]; rfl
  have y1 : w3.frozen? ⟨w.heap.size, 1, none⟩ = false := frozen_of_row _ _ _ _ _ HZ.out
  have x2 : w3.cell? ⟨w.heap.size, 2, none⟩ = some (.int .i64 0) := by rw [cell_of_row _ _ _ _ _ _ HZ.out]; rfl
  have y2 : w3.frozen? ⟨w.heap.size, 2, none⟩ = false := frozen_of_row _ _ _ _ _ HZ.out
  have x3 : w3.cell? ⟨w.heap.size, 3, none⟩ = some (.slice none 0 0) := by rw [cell_of_row _ _ _ _ _ _ HZ.out]; rfl
  have y3 : w3.frozen? ⟨w.heap.size, 3, none⟩ = false := frozen_of_row _ _ _ _ _ HZ.out
  have x4 : w3.cell? ⟨w.heap.size, 4, none⟩ = some (.slice none 0 0) := by rw [cell_of_row _ _ _ _ _ _ HZ.out]; rfl
  have y4 : w3.frozen? ⟨w.heap.size, 4, none⟩ = false := frozen_of_row _ _ _ _ _ HZ.out
  have x5 : w3.cell? ⟨w.heap.size, 5, none⟩ = some (.int .i64 0) := by rw [cell_of_row _ _ _ _ _ _ HZ.out]; rfl
  have y5 : w3.frozen? ⟨w.heap.size, 5, none⟩ = false := frozen_of_row _ _ _ _ _ HZ.out
  have x6 : w3.cell? ⟨w.heap.size, 6, none⟩ = some (.int .i64 0) := by rw [cell_of_row _ _ _ _ _ _ HZ.out]; rfl
  have y6 : w3.frozen? ⟨w.heap.size, 6, none⟩ = false := frozen_of_row _ _ _ _ _ HZ.out
  have x7 : w3.cell? ⟨w.heap.size, 7, none⟩ = some (.int .i64 0) := by rw [cell_of_row _ _ _ _ _ _ HZ.out]; rfl
  have y7 : w3.frozen? ⟨w.heap.size, 7, none⟩ = false := frozen_of_row _ _ _ _ _ HZ.out
  have x8 : w3.cell? ⟨w.heap.size, 8, none⟩ = some (.slice none 0 0) := by rw [cell_of_row _ _ _ _ _ _ HZ.out]; rfl
  have y8 : w3.frozen? ⟨w.heap.size, 8, none⟩ = false := frozen_of_row _ _ _ _ _ HZ.out
  go_enter Try.func22, Try.ntmps22
  go_wp2_with fail
  refine bodyPost_ret (results_cell_row rfl _ _ w.heap.size 30 _ (0, 0) _ rfl (row9 HZ.out _ _ _ _ _ _ _ _ _) Try.underlying30 rfl (by kernel_rfl)) rfl ⟨_, rfl, ⟨some ⟨g1, 0, none⟩, c1, none, 0, none, 0, rfl, ?_⟩, bel9 HB3.out (Nat.le_refl _) _ _ _ _ _ _ _ _ _⟩
  have hl := HLT.out
  exact ⟨HS1.out.only (only9 w3 w.heap.size _ _ _ _ _ _ _ _ _) (Off.at (ad := ⟨g1, 0, none⟩) (by simp; omega)), Src.nil _, WrRow.nil _ _, HL.out, by simp [dropE], by simp [dropE]⟩
/-- What a call of Get tells. -/
def GetSays (w : World) (L : Col) (k : List Nat) (e : Ending) (w' : World) : Prop := ∃ v, e = .returned (.tuple #[v, .bool (get k L).isSome]) ∧ Src w' v ((get k L).getD []) ∧ Below w.heap.size w w'
set_option maxHeartbeats 4000000 in
set_option maxRecDepth 10000 in
theorem Get_any (w : World) (p b : Nat) (L : Col) (kp : Option Addr) (kn kc : Nat) (k : List Nat) (h : DcIs w p b L) (hs : Src w (.slice kp kn kc) k) (hl : k.length ≤ maxLen) :
    Calls Try.prog 19 #[.pointer (some ⟨p, 0, none⟩), .slice kp kn kc] w fun e w' => GetSays w L k e w' := by
  have hcp := h.cell
  have hcv := conv_src (w := w.drew) hs
  have hlk := h.drew.look hs.small hl
  have hcv2 := conv_src (w := (w.alloc (.cells #[.string ⟨#[]⟩] 68)).drew) (show Src (w.alloc (.cells #[.string ⟨#[]⟩] 68)) (.slice kp kn kc) k from hs.below (bel_alloc (Nat.le_refl _) _))
  have hlk2 := (h.below (bel_alloc (Nat.le_refl _) (.cells #[.string ⟨#[]⟩] 68))).drew.look hs.small hl
  have hpl := h.ltp
  cases hg : get k L with
  | none =>
    have HR : Hid (∀ e w', e = .returned (.tuple #[.slice none 0 0, .bool false]) → Below w.heap.size w w' → GetSays w L k e w') := fun e w' h1 h2 => ⟨.slice none 0 0, by rw [h1, hg]; rfl, by rw [hg]; exact Src.nil _, h2⟩
    rw [hg] at hlk hlk2
    simp only [Option.isSome_none, Option.getD_none] at hlk hlk2
    clear h hs hg
    generalize strB [] = sv at *
    go_enter Try.func19, Try.ntmps19
    go_wp2_with fail
    go_region
    all_goals go_wp2_with fail
    all_goals go_ret2
    all_goals exact HR.out _ _ rfl (bel_alloc (Nat.le_refl _) _).drew
  | some v =>
    obtain ⟨c3, w3, hr3, hs3, hb3⟩ := str_src ((w.alloc (.cells #[.string (strB v)] 68)).drew) v (h.ok.1 _ (get_mem hg)).2.1
    obtain ⟨g3, hg3⟩ : ∃ g, g = ((w.alloc (.cells #[.string (strB v)] 68)).drew).heap.size := ⟨_, rfl⟩
    rw [← hg3] at hr3 hs3 hb3
    have HR : Hid (∀ e, e = .returned (.tuple #[.slice (some ⟨g3, 0, none⟩) v.length c3, .bool true]) → GetSays w L k e w3) := fun e h1 => ⟨.slice (some ⟨g3, 0, none⟩) v.length c3, by rw [h1, hg]; rfl, by rw [hg]; exact hs3, ((bel_alloc (Nat.le_refl _) _).drew).trans (bel_le hb3 (by rw [hg3]; simp [World.drew]))⟩
    rw [hg] at hlk hlk2
    simp only [Option.isSome_some, Option.getD_some] at hlk hlk2
    clear h hs hg hs3 hb3 hg3
    generalize strB v = sv at *
    go_enter Try.func19, Try.ntmps19
    go_wp2_with fail
    go_region
    all_goals go_wp2_with fail
    all_goals go_ret2
    all_goals exact HR.out _ rfl
end Go.Proofs.Ytigfiopmochliaa.D11
