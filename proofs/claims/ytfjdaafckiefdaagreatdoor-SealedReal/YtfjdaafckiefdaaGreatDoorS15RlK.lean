/- A real suite's key. -/
import Derived.Test.YtfjdaafckiefdaaGreatDoorS15Rl
import Derived.Lib.SliceRun
import Derived.Test.YtfjdaafckiefdaaGreatDoorS7St
namespace Go.Proofs.YtfjdaafckiefdaaGreatDoor.S7
open Go.RowKit
set_option maxHeartbeats 1000000 in
set_option maxRecDepth 10000 in
theorem Key_real (l : List Nat) (p n : Nat) (sv : Value) (w : World) (h : RlIs w p sv n) (hs : Src w sv l) (ho : Off sv [p]) (hT : S2.Tab w) (hp : p ≠ 0) (hl : l.length ≤ 50000) (hn : n < 1000000) :
    Calls Tryz.prog 18 #[.pointer (some ⟨p, 0, none⟩)] w fun e w' => ∃ u, e = .returned u ∧ w'.ownsRow w.heap.size 5 1 u 32 (ints .u8 (S2.Mk.code l (Su.be 8 (n + 1)))) ∧ RlIs w' p sv (n + 1) ∧ Only [p] w w' := by
  have HH : Hid (RlIs w p sv n) := h
  have HN : Hid (n < 1000000) := hn
  have HS : Hid (∀ w1, Only [p] w w1 → Src w1 sv l) := fun w1 h1 => hs.only h1 ho
  have HT : Hid (∀ w1, Only [p] w w1 → S2.Tab w1) := fun w1 h1 => tab_only hT h1 (by simp; omega)
  have HL : Hid (l.length ≤ 50000) := hl
  obtain ⟨qs, cs, rfl, _⟩ := hs.slice
  clear h hs ho hT hp hl hn
  generalize l.length = ll at *
  go_enter Tryz.func18, Tryz.ntmps18
  go_wp2_with fail
  refine (next_any p n _ _ w HH.out (by have := HN.out; omega)).mono ?_
  rintro e w2 ⟨rfl, hw2⟩
  have h2 : Only [p] w w2 := by rw [hw2]; exact Only.setCell _ _ _ (by simp)
  have hp2 : RlIs w2 p (.slice qs ll cs) (n + 1) := by
    unfold RlIs
    rw [hw2]
    exact heap_setCell_same w p 1 _ 93 _ HH.out
  obtain ⟨d0, d1, d2⟩ := hp2.cells
  have HP2 : Hid (RlIs w2 p (.slice qs ll cs) (n + 1)) := hp2
  have HO2 : Hid (Only [p] w w2) := h2
  have HAP : Hid (Calls Tryz.prog 56 #[.slice none 0 0, .int .i64 ((n : Int) + 1)] w2.drew fun e w' => ∃ v', e = .returned v' ∧ w'.ownsRow w2.heap.size 5 1 v' 8 (ints .u8 (Su.be 8 (n + 1))) ∧ Below w2.heap.size w2 w') := by
    refine (appendNumber_any [] (.slice none 0 0) 0 w2.heap.size (n + 1) w2.drew (own_none _ _ _ _) (by decide) (Nat.le_refl _) (by have := HN.out; omega)).mono ?_
    rintro e w3 ⟨v', rfl, h3, h4⟩
    exact ⟨v', rfl, h3, (below_drewN 1 w2 _).trans h4⟩
  have HCD : Hid (∀ w3 (v : Value), Below w2.heap.size w2 w3 → Src w3 v (Su.be 8 (n + 1)) → Calls Tryz.prog 55 #[.slice qs ll cs, .slice (some ⟨w3.heap.size, 0, none⟩) 1 1] (w3.alloc (.cells #[v] 22)) fun e w' => ∃ u, e = .returned u ∧ w'.ownsRow w.heap.size 5 1 u 32 (ints .u8 (S2.Mk.code l (Su.be 8 (n + 1)))) ∧ RlIs w' p (.slice qs ll cs) (n + 1) ∧ Only [p] w w') := fun w3 v hb hv => by
    have hb4 : Below w2.heap.size w2 (w3.alloc (.cells #[v] 22)) := hb.trans ((below_alloc _ _).mono hb.size)
    have ho4 : Only [p] w (w3.alloc (.cells #[v] 22)) := HO2.out.trans (Only.of_below hb4 _)
    have hcell := cell_part w3 v
    have hc := S2.code_any l [Su.be 8 (n + 1)] qs ll cs w3.heap.size 0 1 [v] (w3.alloc (.cells #[v] 22)) ((HS.out _ ho4).bytesAt) (HT.out _ ho4) (by have := HL.out; omega)
      (fun j u hu => by
        cases j with
        | zero => simp at hu; subst hu; exact hcell
        | succ j => simp at hu)
      (fun i l' hl' => by
        cases i with
        | zero => simp at hl'; subst hl'; exact ⟨v, rfl, (hv.below (below_alloc _ _)).bytesAt⟩
        | succ i => simp at hl') (by simp) (by simp [Su.be_length])
    refine hc.mono ?_
    rintro e w' ⟨g, rfl, hg, hr, hb5⟩
    have hfl : [Su.be 8 (n + 1)].flatten = Su.be 8 (n + 1) := by simp
    rw [hfl] at hr
    refine ⟨_, rfl, own_row (S2.Mk.code_length _ _) (by decide) (Nat.le_trans (Nat.le_trans HO2.out.size hb4.size) hg) hr, (HP2.out.below hb4).below hb5, ho4.trans (Only.of_below hb5 _)⟩
  have HBE : Hid (∀ y ∈ Su.be 8 (n + 1), y < 256) := Su.be_lt 8 _
  clear hw2 hp2 h2 HS HT HL
  go_wp2_with fail
  go_region_with ((first
    | (go_at_call 56; refine HAP.out.mono ?_; rintro e w3 ⟨v3, rfl, ho3, hb3⟩; obtain ⟨d0', d1', d2'⟩ := (HP2.out.below hb3).cells; have HV3 : Hid (Src w3 v3 (Su.be 8 (n + 1))) := Src.own HBE.out ho3; have HB3 : Hid (Below w2.heap.size w2 w3) := hb3; obtain ⟨q3, c3, rfl⟩ := own_slice ho3; have d0'' := ((HP2.out.below hb3).below (below_alloc w3 (.cells #[.slice q3 8 c3] 22))).cells.1; clear ho3 hb3)
    | (go_at_call 55; refine (HCD.out w3 _ HB3.out HV3.out).mono ?_; rintro e w4 ⟨u4, rfl, ho4, hr4, hn4⟩; have HO4 : Hid (w4.ownsRow w.heap.size 5 1 u4 32 (ints .u8 (S2.Mk.code l (Su.be 8 (n + 1))))) := ho4; have HR4 : Hid (RlIs w4 p (.slice qs ll cs) (n + 1)) := hr4; have HN4 : Hid (Only [p] w w4) := hn4; clear ho4 hr4 hn4)))
  all_goals
    go_wp2_with fail
    go_ret
    exact ⟨_, rfl, HO4.out, HR4.out, HN4.out⟩
end Go.Proofs.YtfjdaafckiefdaaGreatDoor.S7
