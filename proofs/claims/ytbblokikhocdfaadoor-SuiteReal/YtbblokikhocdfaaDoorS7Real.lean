/- A real suite in memory, and the contracts of its calls. -/
import Derived.Test.YtbblokikhocdfaaDoorS7St
import Derived.Lib.SliceRun
import Derived.Test.YtbblokikhocdfaaDoorS2Mac
import Derived.Test.YtbblokikhocdfaaDoorA5Open
namespace Go.Proofs.YtbblokikhocdfaaDoor.S7
open Go.RowKit
/-- A real suite: its seed, and how many keys were drawn. -/
def RlIs (w : World) (p : Nat) (sv : Value) (n : Nat) : Prop := w.heap[p]? = some (.cells #[sv, .int .i64 (n : Int), .pointer none] 63 (0, 0))
theorem Src.bytesAt {w : World} {v : Value} {l : List Nat} (h : Src w v l) : S2.BytesAt w v l := by
  obtain ⟨hs, ⟨rfl, rfl⟩ | ⟨ad, c, rfl, rfl⟩ | ⟨b, o, c, rfl, hc, hr⟩⟩ := h
  · exact ⟨hs, .inl ⟨_, _, rfl, rfl⟩⟩
  · exact ⟨hs, .inl ⟨_, _, rfl, rfl⟩⟩
  · exact ⟨hs, .inr ⟨b, o, c, rfl, hc, hr⟩⟩
theorem tab_only {w w' : World} {bs : List Nat} (h : S2.Tab w) (ho : Only bs w w') (h0 : 0 ∉ bs) : S2.Tab w' := fun i hi => by
  have h1 := h i hi
  rw [World.cell?_of_block (a := ⟨0, i, none⟩) (ho.block 0 (World.block_lt_of_cell? w _ h1) h0)]
  exact h1
theorem tab_below {w w' : World} {B : Nat} (h : S2.Tab w) (hb : Below B w w') (h0 : 0 < B) : S2.Tab w' := fun i hi => by
  have h1 := h i hi
  rw [World.cell?_of_block (a := ⟨0, i, none⟩) (hb.block 0 h0)]
  exact h1
theorem tab_lt {w : World} (h : S2.Tab w) : 0 < w.heap.size := World.block_lt_of_cell? w _ (h 0 (by decide))
theorem own_row {w : World} {B g : Nat} {l : List Nat} {n : Nat} (hn : l.length = n) (hm : n ≤ 100000) (hB : B ≤ g) (h : w.heap[g]? = some (.cells (arr .u8 l) 5 (0, 0))) : w.ownsRow B 5 1 (.slice (some ⟨g, 0, none⟩) n n) n (ints .u8 l) :=
  ⟨by rw [ints_length]; omega, .inr ⟨g, n, _, rfl, hB, h, Nat.le_refl _, by unfold maxLen; omega, by rw [arr_size]; omega, by
    rw [arr_list, Nat.mul_one, ← hn, ← ints_length .u8 l]
    exact List.take_length⟩⟩
set_option maxHeartbeats 400000 in
set_option maxRecDepth 10000 in
theorem clone_any {l : List Nat} (v : Value) (w : World) (hv : Src w v l) (hl : l.length ≤ 50000) :
    Calls Tryd.prog 44 #[v] w fun e w' => ∃ u, e = .returned u ∧ OwnV w.heap.size l u w' ∧ Below w.heap.size w w' ∧ ∀ b, u.ownBlock = some b → b < w'.heap.size := by
  have HV : Hid (Src w v l) := hv
  have HL : Hid (l.length ≤ 50000) := hl
  have key : ∀ ad n c, v = .slice (some ad) n c → Calls Tryd.prog 44 #[v] w fun e w' => ∃ u, e = .returned u ∧ OwnV w.heap.size l u w' ∧ Below w.heap.size w w' ∧ ∀ b, u.ownBlock = some b → b < w'.heap.size := by
    intro ad n c e
    subst e
    clear hv hl
    have hnil : (binOp .eql 32 (.slice (some ad) n c) (.slice none 0 0)).run Tryd.prog w = .ok (.bool false) w := Lib.run_eql_slice_nil w 32 5 (some ad) n c 0 0 (by rfl)
    go_enter Tryd.func44, Tryd.ntmps44
    go_wp2_with (first | with_reducible (refine stop_builtin .append ?_))
    refine Stop.go ?_
    have hb5 : Below w.heap.size w (w.alloc (.cells #[] 5)) := (Below.refl _ _).alloc (Nat.le_refl _) _
    have he : (w.alloc (.cells #[] 5)).ownsRow w.heap.size 5 1 (.slice (some ⟨w.heap.size, 0, none⟩) 0 0) 0 (ints .u8 []) :=
      ⟨rfl, .inr ⟨w.heap.size, 0, #[], rfl, Nat.le_refl _, heap_alloc_new w _, Nat.le_refl _, by unfold maxLen; decide, rfl, rfl⟩⟩
    refine law_append_src w.heap.size _ 0 [] _ l rfl rfl he (HV.out.below hb5) (by have := HL.out; omega) (by simp) ?_
    intro u w1 ho hg
    have HB : Hid (Below w.heap.size w w1) := hb5.trans (below_append he hg (by simp))
    have HO : Hid (w1.ownsRow w.heap.size 5 1 u (0 + l.length) (ints .u8 ([] ++ l))) := ho
    clear ho hg hb5 he
    go_wp2_with fail
    go_ret
    refine ⟨_, rfl, by have := HO.out; rw [Nat.zero_add] at this; exact this, HB.out, fun b hb => ?_⟩
    obtain ⟨_, ⟨rfl, _⟩ | ⟨g, cap, cur, rfl, _, hg, _⟩⟩ := HO.out
    · cases hb
    · cases hb; exact (Array.getElem?_eq_some_iff.1 hg).1
  rcases hv.2 with ⟨rfl, rfl⟩ | ⟨ad, c, rfl, rfl⟩ | ⟨b, o, c, rfl, _⟩
  · clear key hv hl
    have hnil : (binOp .eql 32 (.slice none 0 0) (.slice none 0 0)).run Tryd.prog w = .ok (.bool true) w := Lib.run_eql_slice_nil w 32 5 none 0 0 0 0 (by rfl)
    go_enter Tryd.func44, Tryd.ntmps44
    go_wp2_with fail
    go_ret
    exact ⟨_, rfl, own_none _ _ _ _, Below.refl _ _, fun b hb => by cases hb⟩
  · exact key _ _ _ rfl
  · exact key _ _ _ rfl
set_option maxHeartbeats 400000 in
set_option maxRecDepth 10000 in
theorem Real_any {l : List Nat} (v : Value) (w : World) (hv : Src w v l) (hl : l.length ≤ 50000) :
    Calls Tryd.prog 24 #[v] w fun e w' => ∃ p sv, e = .returned (.pointer (some ⟨p, 0, none⟩)) ∧ RlIs w' p sv 0 ∧ OwnV w.heap.size l sv w' ∧ Below w.heap.size w w' ∧ w.heap.size ≤ p ∧ Off sv [p] ∧ p < w'.heap.size := by
  have HC : Hid (Calls Tryd.prog 44 #[v] w fun e w' => ∃ u, e = .returned u ∧ OwnV w.heap.size l u w' ∧ Below w.heap.size w w' ∧ ∀ b, u.ownBlock = some b → b < w'.heap.size) := clone_any v w hv hl
  clear hv hl
  go_enter Tryd.func24, Tryd.ntmps24
  go_wp2_with fail
  refine HC.out.mono ?_
  rintro e w1 ⟨u, rfl, hs, hb, hu⟩
  have HS : Hid (OwnV w.heap.size l u w1) := hs
  have HB : Hid (Below w.heap.size w w1) := hb
  obtain ⟨q, c, rfl⟩ := own_slice hs
  have HU : Hid (∀ b, (Value.slice q l.length c).ownBlock = some b → b < w1.heap.size) := hu
  clear hs hb hu HC
  go_wp2_with fail
  go_ret
  refine ⟨_, _, rfl, heap_alloc_new w1 _, own_only HS.out (Only.of_below (below_alloc _ _) []) (fun _ _ => by simp), HB.out.trans ((below_alloc _ _).mono HB.out.size), HB.out.size, ?_, by simp⟩
  intro b hb e
  have h1 := HU.out b hb
  have h2 := List.mem_singleton.1 e
  omega
section
variable {w : World} {p n : Nat} {sv : Value}
theorem RlIs.cells (h : RlIs w p sv n) : w.cell? ⟨p, 0, none⟩ = some sv ∧ w.cell? ⟨p, 1, none⟩ = some (.int .i64 (n : Int)) ∧ w.cell? ⟨p, 2, none⟩ = some (.pointer none) := by
  obtain ⟨h0, h1, h2, _⟩ := cells3 h
  exact ⟨h0, h1, h2⟩
theorem RlIs.only {w' : World} {bs : List Nat} (h : RlIs w p sv n) (ho : Only bs w w') (hp : p ∉ bs) : RlIs w' p sv n := (ho.block p (Array.getElem?_eq_some_iff.1 h).1 hp).trans h
theorem RlIs.below {w' : World} (h : RlIs w p sv n) (hb : Below w.heap.size w w') : RlIs w' p sv n := h.only (Only.of_below hb []) (by simp)
theorem RlIs.lt (h : RlIs w p sv n) : p < w.heap.size := (Array.getElem?_eq_some_iff.1 h).1
end
set_option maxHeartbeats 1000000 in
set_option maxRecDepth 10000 in
theorem Key_real (l : List Nat) (p n : Nat) (sv : Value) (w : World) (h : RlIs w p sv n) (hs : Src w sv l) (ho : Off sv [p]) (hT : S2.Tab w) (hp : p ≠ 0) (hl : l.length ≤ 50000) (hn : n < 1000000) :
    Calls Tryd.prog 17 #[.pointer (some ⟨p, 0, none⟩)] w fun e w' => ∃ u, e = .returned u ∧ w'.ownsRow w.heap.size 5 1 u 32 (ints .u8 (S2.Mk.code l (Su.be 8 (n + 1)))) ∧ RlIs w' p sv (n + 1) ∧ Only [p] w w' := by
  have HH : Hid (RlIs w p sv n) := h
  have HN : Hid (n < 1000000) := hn
  have HS : Hid (∀ w1, Only [p] w w1 → Src w1 sv l) := fun w1 h1 => hs.only h1 ho
  have HT : Hid (∀ w1, Only [p] w w1 → S2.Tab w1) := fun w1 h1 => tab_only hT h1 (by simp; omega)
  have HL : Hid (l.length ≤ 50000) := hl
  obtain ⟨qs, cs, rfl, _⟩ := hs.slice
  clear h hs ho hT hp hl hn
  generalize l.length = ll at *
  go_enter Tryd.func17, Tryd.ntmps17
  go_wp2_with fail
  refine (next_any p n _ _ w HH.out (by have := HN.out; omega)).mono ?_
  rintro e w2 ⟨rfl, hw2⟩
  have h2 : Only [p] w w2 := by rw [hw2]; exact Only.setCell _ _ _ (by simp)
  have hp2 : RlIs w2 p (.slice qs ll cs) (n + 1) := by
    unfold RlIs
    rw [hw2]
    exact heap_setCell_same w p 1 _ 63 _ HH.out
  obtain ⟨d0, d1, d2⟩ := hp2.cells
  have HP2 : Hid (RlIs w2 p (.slice qs ll cs) (n + 1)) := hp2
  have HO2 : Hid (Only [p] w w2) := h2
  have HAP : Hid (Calls Tryd.prog 35 #[.slice none 0 0, .int .i64 ((n : Int) + 1)] w2.drew fun e w' => ∃ v', e = .returned v' ∧ w'.ownsRow w2.heap.size 5 1 v' 8 (ints .u8 (Su.be 8 (n + 1))) ∧ Below w2.heap.size w2 w') := by
    refine (appendNumber_any [] (.slice none 0 0) 0 w2.heap.size (n + 1) w2.drew (own_none _ _ _ _) (by decide) (Nat.le_refl _) (by have := HN.out; omega)).mono ?_
    rintro e w3 ⟨v', rfl, h3, h4⟩
    exact ⟨v', rfl, h3, (below_drewN 1 w2 _).trans h4⟩
  have HCD : Hid (∀ w3 (v : Value), Below w2.heap.size w2 w3 → Src w3 v (Su.be 8 (n + 1)) → Calls Tryd.prog 33 #[.slice qs ll cs, .slice (some ⟨w3.heap.size, 0, none⟩) 1 1] (w3.alloc (.cells #[v] 32)) fun e w' => ∃ u, e = .returned u ∧ w'.ownsRow w.heap.size 5 1 u 32 (ints .u8 (S2.Mk.code l (Su.be 8 (n + 1)))) ∧ RlIs w' p (.slice qs ll cs) (n + 1) ∧ Only [p] w w') := fun w3 v hb hv => by
    have hb4 : Below w2.heap.size w2 (w3.alloc (.cells #[v] 32)) := hb.trans ((below_alloc _ _).mono hb.size)
    have ho4 : Only [p] w (w3.alloc (.cells #[v] 32)) := HO2.out.trans (Only.of_below hb4 _)
    have hcell := cell_part w3 v
    have hc := S2.code_any l [Su.be 8 (n + 1)] qs ll cs w3.heap.size 0 1 [v] (w3.alloc (.cells #[v] 32)) ((HS.out _ ho4).bytesAt) (HT.out _ ho4) (by have := HL.out; omega)
      (fun j u hu => by
        cases j with
        | zero => simp at hu; subst hu; exact hcell
        | succ j => simp at hu)
      (fun i l' hl' => by
        cases i with
        | zero => simp at hl'; subst hl'; exact ⟨v, rfl, (hv.below (below_alloc _ _)).bytesAt⟩
        | succ i => simp at hl') (by simp) (by simp [Su.be_length])
    refine hc.mono ?_
    rintro e w' ⟨g, rfl, hg, hr, hb5⟩
    have hfl : [Su.be 8 (n + 1)].flatten = Su.be 8 (n + 1) := by simp
    rw [hfl] at hr
    refine ⟨_, rfl, own_row (S2.Mk.code_length _ _) (by decide) (Nat.le_trans (Nat.le_trans HO2.out.size hb4.size) hg) hr, (HP2.out.below hb4).below hb5, ho4.trans (Only.of_below hb5 _)⟩
  have HBE : Hid (∀ y ∈ Su.be 8 (n + 1), y < 256) := Su.be_lt 8 _
  clear hw2 hp2 h2 HS HT HL
  go_wp2_with fail
  go_region_with ((first
    | (go_at_call 35; refine HAP.out.mono ?_; rintro e w3 ⟨v3, rfl, ho3, hb3⟩; obtain ⟨d0', d1', d2'⟩ := (HP2.out.below hb3).cells; have HV3 : Hid (Src w3 v3 (Su.be 8 (n + 1))) := Src.own HBE.out ho3; have HB3 : Hid (Below w2.heap.size w2 w3) := hb3; obtain ⟨q3, c3, rfl⟩ := own_slice ho3; have d0'' := ((HP2.out.below hb3).below (below_alloc w3 (.cells #[.slice q3 8 c3] 32))).cells.1; clear ho3 hb3)
    | (go_at_call 33; refine (HCD.out w3 _ HB3.out HV3.out).mono ?_; rintro e w4 ⟨u4, rfl, ho4, hr4, hn4⟩; have HO4 : Hid (w4.ownsRow w.heap.size 5 1 u4 32 (ints .u8 (S2.Mk.code l (Su.be 8 (n + 1))))) := ho4; have HR4 : Hid (RlIs w4 p (.slice qs ll cs) (n + 1)) := hr4; have HN4 : Hid (Only [p] w w4) := hn4; clear ho4 hr4 hn4)))
  all_goals
    go_wp2_with fail
    go_ret
    exact ⟨_, rfl, HO4.out, HR4.out, HN4.out⟩
end Go.Proofs.YtbblokikhocdfaaDoor.S7
