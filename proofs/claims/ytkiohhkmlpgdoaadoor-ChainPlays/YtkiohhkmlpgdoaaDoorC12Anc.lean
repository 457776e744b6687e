/- The contract of the statements' anchor. -/
import Derived.Test.YtkiohhkmlpgdoaaDoorC12Two
namespace Go.Proofs.YtkiohhkmlpgdoaaDoor.S7
open Go.RowKit
/-- The list, behind two News and four Appends, and the sums. -/
def t0 : List Nat := lock6 ++ first 1
def L1 : List Su.Thing := ad [] t0
def r0 : List Nat := sg [] t0
def L2 : List Su.Thing := ad L1 t0
def r0' : List Nat := sg L1 t0
def L3 : List Su.Thing := ad L2 (r0 ++ [97])
def r1 : List Nat := sg L2 (r0 ++ [97])
def L4 : List Su.Thing := ad L3 (r1 ++ [98])
def r2 : List Nat := sg L3 (r1 ++ [98])
def L5 : List Su.Thing := ad L4 (r0' ++ [97])
def r1' : List Nat := sg L4 (r0' ++ [97])
def L6 : List Su.Thing := ad L5 (r1' ++ [99])
def r2' : List Nat := sg L5 (r1' ++ [99])
theorem chnA2 : Chn L2 1 [] [r0] := (Chn.new [] 1).ad t0
theorem chnB2 : Chn L2 1 [] [r0'] := Chn.new L1 1
theorem chnA : Chn L6 1 [[97], [98]] [r0, r1, r2] := (((chnA2.push (b := [97]) rfl).push (b := [98]) (a := r1) rfl).ad (r0' ++ [97])).ad (r1' ++ [99])
theorem chnB : Chn L6 1 [[97], [99]] [r0', r1', r2'] := ((((chnB2.ad (r0 ++ [97])).ad (r1 ++ [98])).push (b := [97]) rfl).push (b := [99]) (a := r1') rfl)
theorem lens : L1.length ≤ 1 ∧ L2.length ≤ 2 ∧ L3.length ≤ 3 ∧ L4.length ≤ 4 ∧ L5.length ≤ 5 ∧ L6.length ≤ 6 := by
  have h1 : L1.length ≤ 0 + 1 := ad_length [] t0
  have h2 : L2.length ≤ L1.length + 1 := ad_length _ _
  have h3 : L3.length ≤ L2.length + 1 := ad_length _ _
  have h4 : L4.length ≤ L3.length + 1 := ad_length _ _
  have h5 : L5.length ≤ L4.length + 1 := ad_length _ _
  have h6 : L6.length ≤ L5.length + 1 := ad_length _ _
  omega
theorem rlen : r0.length = 32 ∧ r1.length = 32 ∧ r2.length = 32 ∧ r0'.length = 32 ∧ r1'.length = 32 ∧ r2'.length = 32 := ⟨sg_length _ _, sg_length _ _, sg_length _ _, sg_length _ _, sg_length _ _, sg_length _ _⟩
theorem anc_same : r1' = r1 := by
  have h := (forks (by have := lens; omega) chnA chnB (by omega) (by omega) 1 (by simp) (by simp)).2 ⟨rfl, rfl⟩
  exact (Option.some.inj h).symm
theorem anc_fork : r2' ≠ r2 := fun e => by
  have h := (forks (by have := lens; omega) chnA chnB (by omega) (by omega) 2 (by simp) (by simp)).1 (by show some r2 = some r2'; rw [e])
  have := h.2
  simp at this
set_option maxHeartbeats 16000000 in
set_option maxRecDepth 20000 in
theorem anchor_any (w : World) : Calls Tryd.prog 9 #[] w fun e w' => e = .returned (.bool true) ∧ Below w.heap.size w w' := by
  obtain ⟨B, hBe⟩ : ∃ B, B = w.heap.size := ⟨_, rfl⟩
  have HBE : Hid (B = w.heap.size) := hBe
  rw [← hBe]
  clear hBe
  go_enter Tryd.func9, Tryd.ntmps9
  go_wp2_with fail
  refine (Signs_new w).mono ?_
  rintro e w1 ⟨p, q, m, x, rfl, hs, hb⟩
  rw [← HBE.out] at hs hb
  have G1 : Hid (Sw B w1 p q m x [] ∧ Below B w w1) := ⟨hs, hb⟩
  clear hs hb
  go_wp2_with fail
  refine (one_new (n := 1) G1.out.1 (by simp) (by have := G1.out.2.size; rw [HBE.out]; exact this) (by omega)).mono ?_
  rintro e w2 ⟨c, rfl, ho, hk⟩
  have G2 : Hid (One B w2 p q m x c L1 [] [r0] ∧ Below B w w2) := ⟨ho, G1.out.2.trans hk.low⟩
  clear ho hk G1
  go_wp2_with fail
  refine (two_new (n := 1) G2.out.1 (by have := lens; omega) (by omega)).mono ?_
  rintro e w3 ⟨d, rfl, ho, hk⟩
  have G3 : Hid (Two B w3 p q m x c d L2 [] [r0] [] [r0'] ∧ Below B w w3) := ⟨ho, G2.out.2.trans hk.low⟩
  clear ho hk G2
  obtain ⟨w4, HW4⟩ : ∃ w4, Hid (w3.alloc (.cells #[.string ⟨#[97, 98]⟩, .string ⟨#[97, 99]⟩] 9) = w4) := ⟨_, rfl⟩
  have hb4 : Below w3.heap.size w3 w4 := by rw [← HW4.out]; exact below_alloc' w3 _
  obtain ⟨gs, hgs⟩ : ∃ gs, gs = w3.heap.size := ⟨_, rfl⟩
  have G4 : Hid (Two B w4 p q m x c d L2 [] [r0] [] [r0'] ∧ Below B w w4 ∧ w4.heap[gs]? = some (.cells #[.string ⟨#[97, 98]⟩, .string ⟨#[97, 99]⟩] 9 (0, 0))) := ⟨G3.out.1.below hb4, G3.out.2.trans (hb4.mono (by have := G3.out.2.size; rw [HBE.out]; exact this)), by rw [← HW4.out, hgs]; exact heap_alloc_new w3 _⟩
  go_wp2_with fail
  rw [HW4.out]
  rw [← hgs]
  clear hb4 G3 HW4 hgs
  go_loopw [38] (fun i wr => ∃ (j : Nat), j ≤ 2 ∧ i = .int .i64 j ∧ Hid ((j = 0 → Two B wr p q m x c d L2 [] [r0] [] [r0']) ∧ (j = 1 → Two B wr p q m x c d L4 [[97], [98]] [r0, r1, r2] [] [r0']) ∧ (j = 2 → Two B wr p q m x c d L6 [[97], [98]] [r0, r1, r2] [[97], [99]] [r0', r1', r2'])) ∧ Hid (Below B w wr ∧ wr.heap[gs]? = some (.cells #[.string ⟨#[97, 98]⟩, .string ⟨#[97, 99]⟩] 9 (0, 0)))) (fun i _ => 2 - (intOf i).toNat)
  case atStart => exact ⟨0, by omega, rfl, ⟨fun _ => G4.out.1, fun h => (by cases h), fun h => (by cases h)⟩, G4.out.2⟩
  case round =>
    obtain ⟨j, hj, rfl, GS, GB⟩ := hrel
    clear G4
    by_cases j0 : j = 0
    · subst j0
      have HBS : Hid (B ≤ wr.heap.size) := by have := GB.out.1.size; rw [← HBE.out] at this; exact this
      have GJ : Hid (Two B wr p q m x c d L2 [] [r0] [] [r0'] ∧ Below B w wr ∧ wr.heap[gs]? = some (.cells #[.string ⟨#[97, 98]⟩, .string ⟨#[97, 99]⟩] 9 (0, 0))) := ⟨(GS.out.1 rfl), GB.out⟩
      clear GS GB hj
      have h5 : Below wr.heap.size wr (wr.alloc (.cells #[.pointer (some ⟨c, 0, none⟩), .pointer (some ⟨d, 0, none⟩)] 32)) := below_alloc' wr _
      have hz5 : (wr.alloc (.cells #[.pointer (some ⟨c, 0, none⟩), .pointer (some ⟨d, 0, none⟩)] 32)).heap[wr.heap.size]? = some (.cells #[.pointer (some ⟨c, 0, none⟩), .pointer (some ⟨d, 0, none⟩)] 32 (0, 0)) := heap_alloc_new wr _
      have z5 : (wr.alloc (.cells #[.pointer (some ⟨c, 0, none⟩), .pointer (some ⟨d, 0, none⟩)] 32)).cell? ⟨wr.heap.size, 0, none⟩ = some (.pointer (some ⟨c, 0, none⟩)) := by rw [cell_of_row _ _ _ _ _ _ hz5]; rfl
      have s5 : wr.cell? ⟨gs, 0, none⟩ = some (.string ⟨#[97, 98]⟩) := by rw [cell_of_row _ _ _ _ _ _ GJ.out.2.2]; rfl
      obtain ⟨c6, w6, hv6, hy6, hb6⟩ := str_by B (wr.alloc (.cells #[.pointer (some ⟨c, 0, none⟩), .pointer (some ⟨d, 0, none⟩)] 32)) [97] (by decide)
      have ex1 : strB [97] = ({ data := #[97, 98] } : ByteArray).extract 0 1 := by rfl
      rw [ex1] at hv6
      have hw6 : Below wr.heap.size wr w6 := h5.trans (hb6.mono h5.size)
      have G6 : Hid ((Two B w6 p q m x c d L2 [] [r0] [] [r0'] ∧ Below B w w6 ∧ w6.heap[gs]? = some (.cells #[.string ⟨#[97, 98]⟩, .string ⟨#[97, 99]⟩] 9 (0, 0))) ∧ By B w6 (.slice (some ⟨(wr.alloc (.cells #[.pointer (some ⟨c, 0, none⟩), .pointer (some ⟨d, 0, none⟩)] 32)).heap.size, 0, none⟩) 1 c6) [97]) := ⟨⟨GJ.out.1.below hw6, GJ.out.2.1.trans (hw6.mono HBS.out), (hw6.block gs (Array.getElem?_eq_some_iff.1 GJ.out.2.2).1).trans GJ.out.2.2⟩, hy6⟩
      obtain ⟨g6, hg6⟩ : ∃ g6, g6 = (wr.alloc (.cells #[.pointer (some ⟨c, 0, none⟩), .pointer (some ⟨d, 0, none⟩)] 32)).heap.size := ⟨_, rfl⟩
      rw [← hg6] at hv6 G6
      simp only [List.length_cons, List.length_nil, Nat.zero_add] at hv6
      clear h5 hz5 hy6 hb6 hw6 ex1 GJ hg6
      go_wp2_with fail
      refine (two_append (l := r0) G6.out.1.1 (by have := lens; omega) G6.out.2 (by omega) (by simp) rfl (by have := rlen; omega) (by simp)).mono ?_
      rintro e w7 ⟨rfl, ho, hk⟩
      have G7 : Hid (Two B w7 p q m x c d L3 [[97]] [r0, r1] [] [r0'] ∧ Below B w w7 ∧ w7.heap[gs]? = some (.cells #[.string ⟨#[97, 98]⟩, .string ⟨#[97, 99]⟩] 9 (0, 0))) := ⟨ho, G6.out.1.2.1.trans hk.low, hk.row gs _ G6.out.1.2.2 (by decide)⟩
      clear ho hk G6 hv6 z5 s5
      have HBS7 : Hid (B ≤ w7.heap.size) := by have := G7.out.2.1.size; rw [← HBE.out] at this; exact this
      obtain ⟨c8, w8, hv8, hy8, hb8⟩ := str_by B w7 [98] (by decide)
      have ex2 : strB [98] = ({ data := #[97, 98] } : ByteArray).extract 1 2 := by rfl
      rw [ex2] at hv8
      have G8 : Hid ((Two B w8 p q m x c d L3 [[97]] [r0, r1] [] [r0'] ∧ Below B w w8 ∧ w8.heap[gs]? = some (.cells #[.string ⟨#[97, 98]⟩, .string ⟨#[97, 99]⟩] 9 (0, 0))) ∧ By B w8 (.slice (some ⟨w7.heap.size, 0, none⟩) 1 c8) [98]) := ⟨⟨G7.out.1.below hb8, G7.out.2.1.trans (hb8.mono HBS7.out), (hb8.block gs (Array.getElem?_eq_some_iff.1 G7.out.2.2).1).trans G7.out.2.2⟩, hy8⟩
      simp only [List.length_cons, List.length_nil, Nat.zero_add] at hv8
      clear hy8 hb8 ex2 G7
      go_wp2_with fail
      refine (two_append (l := r1) G8.out.1.1 (by have := lens; omega) G8.out.2 (by omega) (by simp) rfl (by have := rlen; omega) (by simp)).mono ?_
      rintro e w9 ⟨rfl, ho, hk⟩
      have G9 : Hid (Two B w9 p q m x c d L4 [[97], [98]] [r0, r1, r2] [] [r0'] ∧ Below B w w9 ∧ w9.heap[gs]? = some (.cells #[.string ⟨#[97, 98]⟩, .string ⟨#[97, 99]⟩] 9 (0, 0))) := ⟨ho, G8.out.1.2.1.trans hk.low, hk.row gs _ G8.out.1.2.2 (by decide)⟩
      clear ho hk G8 hv8
      go_wp2_with fail
      refine ⟨⟨1, by omega, by simp, ⟨fun h => (by cases h), fun _ => G9.out.1, fun h => (by cases h)⟩, G9.out.2⟩, ?_⟩
      simp [intOf]
    by_cases j1 : j = 1
    · subst j1
      have HBS : Hid (B ≤ wr.heap.size) := by have := GB.out.1.size; rw [← HBE.out] at this; exact this
      have GJ : Hid (Two B wr p q m x d c L4 [] [r0'] [[97], [98]] [r0, r1, r2] ∧ Below B w wr ∧ wr.heap[gs]? = some (.cells #[.string ⟨#[97, 98]⟩, .string ⟨#[97, 99]⟩] 9 (0, 0))) := ⟨(GS.out.2.1 rfl).symm, GB.out⟩
      clear GS GB hj
      have h5 : Below wr.heap.size wr (wr.alloc (.cells #[.pointer (some ⟨c, 0, none⟩), .pointer (some ⟨d, 0, none⟩)] 32)) := below_alloc' wr _
      have hz5 : (wr.alloc (.cells #[.pointer (some ⟨c, 0, none⟩), .pointer (some ⟨d, 0, none⟩)] 32)).heap[wr.heap.size]? = some (.cells #[.pointer (some ⟨c, 0, none⟩), .pointer (some ⟨d, 0, none⟩)] 32 (0, 0)) := heap_alloc_new wr _
      have z5 : (wr.alloc (.cells #[.pointer (some ⟨c, 0, none⟩), .pointer (some ⟨d, 0, none⟩)] 32)).cell? ⟨wr.heap.size, 1, none⟩ = some (.pointer (some ⟨d, 0, none⟩)) := by rw [cell_of_row _ _ _ _ _ _ hz5]; rfl
      have s5 : wr.cell? ⟨gs, 1, none⟩ = some (.string ⟨#[97, 99]⟩) := by rw [cell_of_row _ _ _ _ _ _ GJ.out.2.2]; rfl
      obtain ⟨c6, w6, hv6, hy6, hb6⟩ := str_by B (wr.alloc (.cells #[.pointer (some ⟨c, 0, none⟩), .pointer (some ⟨d, 0, none⟩)] 32)) [97] (by decide)
      have ex1 : strB [97] = ({ data := #[97, 99] } : ByteArray).extract 0 1 := by rfl
      rw [ex1] at hv6
      have hw6 : Below wr.heap.size wr w6 := h5.trans (hb6.mono h5.size)
      have G6 : Hid ((Two B w6 p q m x d c L4 [] [r0'] [[97], [98]] [r0, r1, r2] ∧ Below B w w6 ∧ w6.heap[gs]? = some (.cells #[.string ⟨#[97, 98]⟩, .string ⟨#[97, 99]⟩] 9 (0, 0))) ∧ By B w6 (.slice (some ⟨(wr.alloc (.cells #[.pointer (some ⟨c, 0, none⟩), .pointer (some ⟨d, 0, none⟩)] 32)).heap.size, 0, none⟩) 1 c6) [97]) := ⟨⟨GJ.out.1.below hw6, GJ.out.2.1.trans (hw6.mono HBS.out), (hw6.block gs (Array.getElem?_eq_some_iff.1 GJ.out.2.2).1).trans GJ.out.2.2⟩, hy6⟩
      obtain ⟨g6, hg6⟩ : ∃ g6, g6 = (wr.alloc (.cells #[.pointer (some ⟨c, 0, none⟩), .pointer (some ⟨d, 0, none⟩)] 32)).heap.size := ⟨_, rfl⟩
      rw [← hg6] at hv6 G6
      simp only [List.length_cons, List.length_nil, Nat.zero_add] at hv6
      clear h5 hz5 hy6 hb6 hw6 ex1 GJ hg6
      go_wp2_with fail
      refine (two_append (l := r0') G6.out.1.1 (by have := lens; omega) G6.out.2 (by omega) (by simp) rfl (by have := rlen; omega) (by simp)).mono ?_
      rintro e w7 ⟨rfl, ho, hk⟩
      have G7 : Hid (Two B w7 p q m x d c L5 [[97]] [r0', r1'] [[97], [98]] [r0, r1, r2] ∧ Below B w w7 ∧ w7.heap[gs]? = some (.cells #[.string ⟨#[97, 98]⟩, .string ⟨#[97, 99]⟩] 9 (0, 0))) := ⟨ho, G6.out.1.2.1.trans hk.low, hk.row gs _ G6.out.1.2.2 (by decide)⟩
      clear ho hk G6 hv6 z5 s5
      have HBS7 : Hid (B ≤ w7.heap.size) := by have := G7.out.2.1.size; rw [← HBE.out] at this; exact this
      obtain ⟨c8, w8, hv8, hy8, hb8⟩ := str_by B w7 [99] (by decide)
      have ex2 : strB [99] = ({ data := #[97, 99] } : ByteArray).extract 1 2 := by rfl
      rw [ex2] at hv8
      have G8 : Hid ((Two B w8 p q m x d c L5 [[97]] [r0', r1'] [[97], [98]] [r0, r1, r2] ∧ Below B w w8 ∧ w8.heap[gs]? = some (.cells #[.string ⟨#[97, 98]⟩, .string ⟨#[97, 99]⟩] 9 (0, 0))) ∧ By B w8 (.slice (some ⟨w7.heap.size, 0, none⟩) 1 c8) [99]) := ⟨⟨G7.out.1.below hb8, G7.out.2.1.trans (hb8.mono HBS7.out), (hb8.block gs (Array.getElem?_eq_some_iff.1 G7.out.2.2).1).trans G7.out.2.2⟩, hy8⟩
      simp only [List.length_cons, List.length_nil, Nat.zero_add] at hv8
      clear hy8 hb8 ex2 G7
      go_wp2_with fail
      refine (two_append (l := r1') G8.out.1.1 (by have := lens; omega) G8.out.2 (by omega) (by simp) rfl (by have := rlen; omega) (by simp)).mono ?_
      rintro e w9 ⟨rfl, ho, hk⟩
      have G9 : Hid (Two B w9 p q m x d c L6 [[97], [99]] [r0', r1', r2'] [[97], [98]] [r0, r1, r2] ∧ Below B w w9 ∧ w9.heap[gs]? = some (.cells #[.string ⟨#[97, 98]⟩, .string ⟨#[97, 99]⟩] 9 (0, 0))) := ⟨ho, G8.out.1.2.1.trans hk.low, hk.row gs _ G8.out.1.2.2 (by decide)⟩
      clear ho hk G8 hv8
      go_wp2_with fail
      refine ⟨⟨2, by omega, by simp, ⟨fun h => (by cases h), fun h => (by cases h), fun _ => G9.out.1.symm⟩, G9.out.2⟩, ?_⟩
      simp [intOf]
    obtain rfl : j = 2 := by omega
    have GJ : Hid (Two B wr p q m x c d L6 [[97], [98]] [r0, r1, r2] [[97], [99]] [r0', r1', r2'] ∧ Below B w wr) := ⟨GS.out.2.2 rfl, GB.out.1⟩
    clear GS GB hj j0 j1
    go_wp2_with fail
    refine (one_at (j := 1) (l := r1') GJ.out.1.symm.one (by simp) rfl (by have := rlen; omega)).mono ?_
    rintro e w5 ⟨u, rfl, ho, hb5⟩
    rw [rlen.2.2.2.2.1] at ho
    obtain ⟨uq, uc, rfl⟩ := own_slice ho
    have HBS : Hid (B ≤ wr.heap.size) := by have := GJ.out.2.size; rw [← HBE.out] at this; exact this
    obtain ⟨w6, HW6⟩ : ∃ w6, Hid (w5.alloc (.cells #[.int .i64 1, .slice uq 32 uc] 44) = w6) := ⟨_, rfl⟩
    have hb6 : Below w5.heap.size w5 w6 := by rw [← HW6.out]; exact below_alloc' w5 _
    have hz6 : w6.heap[w5.heap.size]? = some (.cells #[.int .i64 1, .slice uq 32 uc] 44 (0, 0)) := by rw [← HW6.out]; exact heap_alloc_new w5 _
    have z0 : (w5.alloc (.cells #[.int .i64 1, .slice uq 32 uc] 44)).cell? ⟨w5.heap.size, 0, none⟩ = some (.int .i64 1) := by rw [HW6.out, cell_of_row _ _ _ _ _ _ hz6]; rfl
    have z1 : (w5.alloc (.cells #[.int .i64 1, .slice uq 32 uc] 44)).cell? ⟨w5.heap.size, 1, none⟩ = some (.slice uq 32 uc) := by rw [HW6.out, cell_of_row _ _ _ _ _ _ hz6]; rfl
    have hs6 : Src w6 (.slice uq 32 uc) r1' := (Src.own (chnB.size (i := 1) rfl).2 ho).below hb6
    have hb56 : Below wr.heap.size wr w6 := hb5.trans (hb6.mono hb5.size)
    have G6 : Hid ((Two B w6 p q m x c d L6 [[97], [98]] [r0, r1, r2] [[97], [99]] [r0', r1', r2'] ∧ Below B w w6) ∧ Src w6 (.slice uq 32 uc) r1') := ⟨⟨GJ.out.1.below hb56, GJ.out.2.trans (hb56.mono HBS.out)⟩, hs6⟩
    clear ho hb5 hb6 hz6 hs6 hb56 GJ
    go_wp2_with fail
    rw [HW6.out]
    refine (one_check (j := 1) (l := r1) G6.out.1.1.one (by simp) rfl G6.out.2 (if_pos anc_same)).mono ?_
    rintro e w7 ⟨rfl, hb7⟩
    have G7 : Hid (Two B w7 p q m x c d L6 [[97], [98]] [r0, r1, r2] [[97], [99]] [r0', r1', r2'] ∧ Below B w w7) := ⟨G6.out.1.1.below hb7, G6.out.1.2.trans (hb7.mono (by have := G6.out.1.2.size; rw [← HBE.out] at this; exact this))⟩
    clear hb7 z0 z1 HW6 G6
    go_wp2_with fail
    refine (one_head (l := r2') G7.out.1.symm.one rfl (by have := rlen; omega)).mono ?_
    rintro e w8 ⟨u, rfl, ho, hb8⟩
    rw [rlen.2.2.2.2.2] at ho
    obtain ⟨vq, vc, rfl⟩ := own_slice ho
    have G8 : Hid ((Two B w8 p q m x c d L6 [[97], [98]] [r0, r1, r2] [[97], [99]] [r0', r1', r2'] ∧ Below B w w8) ∧ Src w8 (.slice vq 32 vc) r2') := ⟨⟨G7.out.1.below hb8, G7.out.2.trans (hb8.mono (by have := G7.out.2.size; rw [← HBE.out] at this; exact this))⟩, Src.own (chnB.size (i := 2) rfl).2 ho⟩
    clear ho hb8 G7
    go_wp2_with fail
    refine (one_check (j := 2) (l := r2) G8.out.1.1.one (by simp) rfl G8.out.2 (if_neg anc_fork)).mono ?_
    rintro e w9 ⟨rfl, hb9⟩
    have G9 : Hid (Two B w9 p q m x c d L6 [[97], [98]] [r0, r1, r2] [[97], [99]] [r0', r1', r2'] ∧ Below B w w9) := ⟨G8.out.1.1.below hb9, G8.out.1.2.trans (hb9.mono (by have := G8.out.1.2.size; rw [← HBE.out] at this; exact this))⟩
    clear hb9 G8
    go_wp2_with fail
    refine (one_more G9.out.1.one (by simp)).mono ?_
    rintro e w10 ⟨rfl, hb10⟩
    have G10 : Hid (Two B w10 p q m x c d L6 [[97], [98]] [r0, r1, r2] [[97], [99]] [r0', r1', r2'] ∧ Below B w w10) := ⟨G9.out.1.below hb10, G9.out.2.trans (hb10.mono (by have := G9.out.2.size; rw [← HBE.out] at this; exact this))⟩
    clear hb10 G9
    go_wp2_with fail
    refine (one_len G10.out.1.one).mono ?_
    rintro e w11 ⟨rfl, hw⟩
    obtain rfl : w10 = w11 := hw.symm
    go_wp2_with fail
    go_ret
    exact ⟨rfl, G10.out.2⟩
end Go.Proofs.YtkiohhkmlpgdoaaDoor.S7
