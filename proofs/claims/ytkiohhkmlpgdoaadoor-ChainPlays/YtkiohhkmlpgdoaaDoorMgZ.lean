/- One chain, with blocks that no element of it lies in: Base. -/
import Derived.Test.YtkiohhkmlpgdoaaDoorC12Two
namespace Go.Proofs.YtkiohhkmlpgdoaaDoor.S7.Zz
open Go.RowKit
/-- A row of one's own of rows of bytes. -/
structure RowB (B : Nat) (Z : List Nat) (w : World) (v : Value) (xs : List Value) (ls : List (List Nat)) : Prop where
  own : w.ownsRow B 23 1 v ls.length xs
  len : xs.length = ls.length
  all : ∀ (i : Nat) (x : Value) (l : List Nat), xs[i]? = some x → ls[i]? = some l → By B w x l ∧ Off x Z
section
variable {B : Nat} {Z : List Nat} {w w' : World} {v : Value} {xs : List Value} {ls : List (List Nat)} {ts : List (Option TypeId)}
theorem RowB.nil (B : Nat) (Z : List Nat) (w : World) : RowB B Z w (.slice none 0 0) [] [] := ⟨own_none _ _ _ _, rfl, fun i x l h _ => by simp at h⟩
theorem RowB.slice (h : RowB B Z w v xs ls) : ∃ q c, v = .slice q ls.length c := own_slice h.own
theorem RowB.at (h : RowB B Z w v xs ls) {j : Nat} (hj : j < ls.length) : ∃ g c x, v = .slice (some ⟨g, 0, none⟩) ls.length c ∧ B ≤ g ∧ w.cell? ⟨g, j, none⟩ = some x ∧ By B w x ls[j] := by
  obtain ⟨hl, ⟨e1, e0⟩ | ⟨g, cap, cur, e1, hg, hh, hn, hm, hc, ht⟩⟩ := h.own
  · omega
  · have hx : j < xs.length := by rw [h.len]; exact hj
    refine ⟨g, cap, xs[j], e1, hg, ?_, (h.all j _ _ (List.getElem?_eq_getElem hx) (List.getElem?_eq_getElem hj)).1⟩
    have k1 : xs[j]? = some xs[j] := List.getElem?_eq_getElem hx
    conv at k1 => lhs; rw [← ht]
    rw [Nat.mul_one, List.getElem?_take_of_lt hj] at k1
    rw [cell_of_row _ _ _ _ _ _ hh]
    simpa using k1
theorem RowB.lt (h : RowB B Z w v xs ls) : ∀ b, v.ownBlock = some b → b < w.heap.size := fun b hb => by
  obtain ⟨_, ⟨rfl, _⟩ | ⟨g, cap, cur, rfl, _, hh, _⟩⟩ := h.own
  · cases hb
  · cases hb; exact (Array.getElem?_eq_some_iff.1 hh).1
theorem RowB.ty (h : RowB B Z w v xs ls) : ∀ b, v.ownBlock = some b → B ≤ b ∧ ∃ cs, w.heap[b]? = some (.cells cs 23 (0, 0)) := fun b hb => by
  obtain ⟨_, ⟨rfl, _⟩ | ⟨g, cap, cur, rfl, hg, hh, _⟩⟩ := h.own
  · cases hb
  · cases hb; exact ⟨hg, _, hh⟩
theorem RowB.keep (h : RowB B Z w v xs ls) (hk : Kx ts B w w') (h5 : some 5 ∉ ts) (hb : ∀ b, v.ownBlock = some b → w'.heap[b]? = w.heap[b]?) : RowB B Z w' v xs ls := by
  refine ⟨?_, h.len, fun i x l h1 h2 => ⟨(h.all i x l h1 h2).1.kx hk h5, (h.all i x l h1 h2).2⟩⟩
  obtain ⟨hl, h1 | ⟨g, cap, cur, rfl, hg, hh, hr⟩⟩ := h.own
  · exact ⟨hl, .inl h1⟩
  · exact ⟨hl, .inr ⟨g, cap, cur, rfl, hg, (hb g rfl).trans hh, hr⟩⟩
theorem RowB.below (h : RowB B Z w v xs ls) (hb : Below w.heap.size w w') : RowB B Z w' v xs ls :=
  ⟨own_only h.own (Only.of_below hb []) (fun _ _ => by simp), h.len, fun i x l h1 h2 => ⟨(h.all i x l h1 h2).1.below hb, (h.all i x l h1 h2).2⟩⟩
/-- A row that has grown by one. -/
theorem RowB.push {v' x : Value} {l : List Nat} (h : RowB B Z w v xs ls) (ho : w'.ownsRow B 23 1 v' (ls.length + 1) (xs ++ [x])) (hk : Kx ts B w w') (h5 : some 5 ∉ ts) (hx : By B w' x l ∧ Off x Z) : RowB B Z w' v' (xs ++ [x]) (ls ++ [l]) := by
  refine ⟨by rw [List.length_append]; exact ho, by simp [h.len], fun i y m h1 h2 => ?_⟩
  rcases snoc_get h1 with ⟨a1, a2⟩ | ⟨a1, rfl⟩
  · rcases snoc_get h2 with ⟨b1, b2⟩ | ⟨b1, _⟩
    · exact ⟨(h.all i y m a2 b2).1.kx hk h5, (h.all i y m a2 b2).2⟩
    · rw [← h.len] at b1; omega
  · rcases snoc_get h2 with ⟨b1, b2⟩ | ⟨b1, rfl⟩
    · rw [← h.len] at b1; omega
    · exact hx
end
/-- A chain: its own block, its rows of links and of sums. -/
structure ChIs (B : Nat) (Z : List Nat) (w : World) (c p : Nat) (lv sv : Value) (ls ss : List (List Nat)) : Prop where
  low : B ≤ c
  box : w.heap[c]? = some (.cells #[.pointer (some ⟨p, 0, none⟩), lv, sv] 73 (0, 0))
  links : ∃ xs, RowB B Z w lv xs ls
  sums : ∃ xs, RowB B Z w sv xs ss
  ap : Ap lv sv
section
variable {B : Nat} {Z : List Nat} {w w' : World} {c p : Nat} {lv sv : Value} {ls ss : List (List Nat)} {ts : List (Option TypeId)}
theorem ChIs.cells (h : ChIs B Z w c p lv sv ls ss) : w.cell? ⟨c, 0, none⟩ = some (.pointer (some ⟨p, 0, none⟩)) ∧ w.cell? ⟨c, 1, none⟩ = some lv ∧ w.cell? ⟨c, 2, none⟩ = some sv ∧ ∀ i, w.frozen? ⟨c, i, none⟩ = false := cells3 h.box
theorem ChIs.lt (h : ChIs B Z w c p lv sv ls ss) : c < w.heap.size := (Array.getElem?_eq_some_iff.1 h.box).1
theorem ChIs.keep (h : ChIs B Z w c p lv sv ls ss) (hk : Kx ts B w w') (h5 : some 5 ∉ ts) (hc : w'.heap[c]? = w.heap[c]?) (hl : ∀ b, lv.ownBlock = some b → w'.heap[b]? = w.heap[b]?) (hs : ∀ b, sv.ownBlock = some b → w'.heap[b]? = w.heap[b]?) : ChIs B Z w' c p lv sv ls ss := by
  obtain ⟨xs, hx⟩ := h.links
  obtain ⟨ys, hy⟩ := h.sums
  exact ⟨h.low, hc.trans h.box, ⟨xs, hx.keep hk h5 hl⟩, ⟨ys, hy.keep hk h5 hs⟩, h.ap⟩
theorem ChIs.below (h : ChIs B Z w c p lv sv ls ss) (hb : Below w.heap.size w w') : ChIs B Z w' c p lv sv ls ss := by
  obtain ⟨xs, hx⟩ := h.links
  obtain ⟨ys, hy⟩ := h.sums
  exact ⟨h.low, (hb.block c h.lt).trans h.box, ⟨xs, hx.below hb⟩, ⟨ys, hy.below hb⟩, h.ap⟩
theorem ChIs.fpty (h : ChIs B Z w c p lv sv ls ss) : ∀ y ∈ fp c lv sv, B ≤ y ∧ ∀ o, w.heap[y]? = some o → tyOf o ∈ TS := fun y hy => by
  obtain ⟨xs, hx⟩ := h.links
  obtain ⟨ys, hys⟩ := h.sums
  rcases mem_fp.1 hy with rfl | e | e
  · exact ⟨h.low, fun o ho => by rw [h.box] at ho; cases ho; simp [TS, tyOf]⟩
  · obtain ⟨a, cs, b⟩ := hx.ty y e
    exact ⟨a, fun o ho => by rw [b] at ho; cases ho; simp [TS, tyOf]⟩
  · obtain ⟨a, cs, b⟩ := hys.ty y e
    exact ⟨a, fun o ho => by rw [b] at ho; cases ho; simp [TS, tyOf]⟩
end
end Go.Proofs.YtkiohhkmlpgdoaaDoor.S7.Zz
/- One chain, with blocks that no element of it lies in: Read. -/
namespace Go.Proofs.YtkiohhkmlpgdoaaDoor.S7.Zz
open Go.RowKit
theorem Len_any {B : Nat} {Z : List Nat} {w : World} {c p : Nat} {lv sv : Value} {ls ss : List (List Nat)} (h : ChIs B Z w c p lv sv ls ss) : Calls Tryd.prog 16 #[.pointer (some ⟨c, 0, none⟩)] w fun e w' => e = .returned (.int .i64 (ls.length : Int)) ∧ w' = w := by
  obtain ⟨_, c1, _, _⟩ := h.cells
  obtain ⟨xs, hx⟩ := h.links
  obtain ⟨q, cc, rfl⟩ := hx.slice
  clear h hx
  generalize ls.length = n at *
  go_enter Tryd.func16, Tryd.ntmps16
  go_wp2_with fail
  go_ret
  exact ⟨rfl, rfl⟩
section
variable {B : Nat} {Z : List Nat} {w : World} {c p : Nat} {lv sv : Value} {ls ss : List (List Nat)}
/-- A link that isn't there. -/
theorem Link_none (h : ChIs B Z w c p lv sv ls ss) (i : Int) (hi : i < 0 ∨ (ls.length : Int) ≤ i) : Calls Tryd.prog 21 #[.pointer (some ⟨c, 0, none⟩), .int .i64 i] w fun e w' => e = .returned (.tuple #[.slice none 0 0, .bool false]) ∧ w' = w := by
  have HL : Hid (Calls Tryd.prog 16 #[.pointer (some ⟨c, 0, none⟩)] w fun e w' => e = .returned (.int .i64 (ls.length : Int)) ∧ w' = w) := Len_any h
  clear h
  generalize ls.length = n at *
  by_cases h0 : i < 0
  · clear hi
    go_enter Tryd.func21, Tryd.ntmps21
    go_wp2_with fail
    go_ret2
    exact ⟨rfl, rfl⟩
  · have h1 : (n : Int) ≤ i := by omega
    clear hi
    go_enter Tryd.func21, Tryd.ntmps21
    go_wp2_with fail
    refine HL.out.mono ?_
    rintro e w1 ⟨rfl, hw⟩
    obtain rfl : w = w1 := hw.symm
    go_wp2_with fail
    go_ret2
    exact ⟨rfl, rfl⟩
/-- A link. -/
theorem Link_at (h : ChIs B Z w c p lv sv ls ss) (j : Nat) (l : List Nat) (hl : ls[j]? = some l) (hm : l.length ≤ 50000) : Calls Tryd.prog 21 #[.pointer (some ⟨c, 0, none⟩), .int .i64 (j : Int)] w fun e w' => ∃ u, e = .returned (.tuple #[u, .bool true]) ∧ w'.ownsRow w.heap.size 5 1 u l.length (ints .u8 l) ∧ Below w.heap.size w w' := by
  have hj := get_lt hl
  have HL : Hid (Calls Tryd.prog 16 #[.pointer (some ⟨c, 0, none⟩)] w fun e w' => e = .returned (.int .i64 (ls.length : Int)) ∧ w' = w) := Len_any h
  obtain ⟨_, c1, _, _⟩ := h.cells
  obtain ⟨xs, hx⟩ := h.links
  obtain ⟨g, cc, x, rfl, _, hc, hb⟩ := hx.at hj
  obtain rfl : ls[j] = l := by rw [List.getElem?_eq_getElem hj] at hl; exact Option.some.inj hl
  have HC : Hid (Calls Tryd.prog 28 #[x] w fun e w' => ∃ u, e = .returned u ∧ w'.ownsRow w.heap.size 5 1 u ls[j].length (ints .u8 ls[j]) ∧ Below w.heap.size w w') := clone_any x w hb.src hm
  have h0 : (0 : Int) ≤ (j : Int) := by omega
  have h1 : (j : Int) < (ls.length : Int) := by omega
  clear h hx hb hl
  generalize ls[j] = l at *
  generalize ls.length = n at *
  go_enter Tryd.func21, Tryd.ntmps21
  go_wp2_with fail
  refine HL.out.mono ?_
  rintro e w1 ⟨rfl, hw⟩
  obtain rfl : w = w1 := hw.symm
  go_wp2_with fail
  refine HC.out.mono ?_
  rintro e w1 ⟨u, rfl, ho, hb⟩
  have HO : Hid (w1.ownsRow w.heap.size 5 1 u l.length (ints .u8 l)) := ho
  have HB : Hid (Below w.heap.size w w1) := hb
  clear ho hb HC HL
  go_wp2_with fail
  go_ret2
  exact ⟨_, rfl, HO.out, HB.out⟩
end
section
variable {B : Nat} {Z : List Nat} {w : World} {c p : Nat} {lv sv : Value} {ls ss : List (List Nat)}
set_option maxHeartbeats 1000000 in
/-- A head of a length that isn't there. -/
theorem At_none (h : ChIs B Z w c p lv sv ls ss) (i : Int) (hi : i < 0 ∨ (ls.length : Int) < i) : Calls Tryd.prog 20 #[.pointer (some ⟨c, 0, none⟩), .int .i64 i] w fun e w' => e = .returned (.tuple #[.agg #[.int .i64 0, .slice none 0 0], .bool false]) ∧ Below w.heap.size w w' := by
  have HL : Hid (Calls Tryd.prog 16 #[.pointer (some ⟨c, 0, none⟩)] (w.alloc (.cells #[.int .i64 0, .slice none 0 0] 44)) fun e w' => e = .returned (.int .i64 (ls.length : Int)) ∧ w' = (w.alloc (.cells #[.int .i64 0, .slice none 0 0] 44))) := Len_any (h.below (below_alloc' w _))
  have HZ : Hid ((w.alloc (.cells #[.int .i64 0, .slice none 0 0] 44)).heap[w.heap.size]? = some (.cells #[.int .i64 0, .slice none 0 0] 44 (0, 0))) := heap_alloc_new w _
  have x0 : (w.alloc (.cells #[.int .i64 0, .slice none 0 0] 44)).cell? ⟨w.heap.size, 0, none⟩ = some (.int .i64 0) := by rw [cell_of_row _ _ _ _ _ _ HZ.out]; rfl
  have y0 : (w.alloc (.cells #[.int .i64 0, .slice none 0 0] 44)).frozen? ⟨w.heap.size, 0, none⟩ = false := frozen_of_row _ _ _ _ _ HZ.out
  have x1 : (w.alloc (.cells #[.int .i64 0, .slice none 0 0] 44)).cell? ⟨w.heap.size, 1, none⟩ = some (.slice none 0 0) := by rw [cell_of_row _ _ _ _ _ _ HZ.out]; rfl
  have y1 : (w.alloc (.cells #[.int .i64 0, .slice none 0 0] 44)).frozen? ⟨w.heap.size, 1, none⟩ = false := frozen_of_row _ _ _ _ _ HZ.out
  have HB : Hid (Below w.heap.size w (w.alloc (.cells #[.int .i64 0, .slice none 0 0] 44))) := below_alloc' w _
  clear h
  generalize ls.length = n at *
  by_cases h0 : i < 0
  · clear hi
    go_enter Tryd.func20, Tryd.ntmps20
    go_wp2_with fail
    refine bodyPost_ret (results_row2 rfl _ _ w.heap.size 44 _ (0, 0) _ rfl HZ.out Tryd.underlying44 rfl (by kernel_rfl)) rfl ⟨rfl, HB.out⟩
  · have h1 : (n : Int) < i := by omega
    clear hi
    go_enter Tryd.func20, Tryd.ntmps20
    go_wp2_with fail
    refine HL.out.mono ?_
    rintro e w1 ⟨rfl, hw⟩
    subst hw
    go_wp2_with fail
    refine bodyPost_ret (results_row2 rfl _ _ w.heap.size 44 _ (0, 0) _ rfl HZ.out Tryd.underlying44 rfl (by kernel_rfl)) rfl ⟨rfl, HB.out⟩
set_option maxHeartbeats 1000000 in
/-- A head. -/
theorem At_at (h : ChIs B Z w c p lv sv ls ss) (j : Nat) (l : List Nat) (hj : j ≤ ls.length) (hl : ss[j]? = some l) (hm : l.length ≤ 50000) : Calls Tryd.prog 20 #[.pointer (some ⟨c, 0, none⟩), .int .i64 (j : Int)] w fun e w' => ∃ u, e = .returned (.tuple #[.agg #[.int .i64 (j : Int), u], .bool true]) ∧ w'.ownsRow w.heap.size 5 1 u l.length (ints .u8 l) ∧ Below w.heap.size w w' := by
  have hs := get_lt hl
  obtain ⟨wa, HWA⟩ : ∃ wa, Hid (w.alloc (.cells #[.int .i64 0, .slice none 0 0] 44) = wa) := ⟨_, rfl⟩
  have hba : Below w.heap.size w wa := by rw [← HWA.out]; exact below_alloc' w _
  have hca := h.below hba
  have HZ : Hid (wa.heap[w.heap.size]? = some (.cells #[.int .i64 0, .slice none 0 0] 44 (0, 0))) := by rw [← HWA.out]; exact heap_alloc_new w _
  have HL : Hid (Calls Tryd.prog 16 #[.pointer (some ⟨c, 0, none⟩)] wa fun e w' => e = .returned (.int .i64 (ls.length : Int)) ∧ w' = wa) := Len_any hca
  obtain ⟨_, _, c2, _⟩ := hca.cells
  obtain ⟨xs, hx⟩ := hca.sums
  obtain ⟨g, cc, x, rfl, _, hc, hb⟩ := hx.at hs
  obtain rfl : ss[j] = l := by rw [List.getElem?_eq_getElem hs] at hl; exact Option.some.inj hl
  have HC : Hid (Calls Tryd.prog 28 #[x] wa fun e w' => ∃ u, e = .returned u ∧ w'.ownsRow wa.heap.size 5 1 u ss[j].length (ints .u8 ss[j]) ∧ Below wa.heap.size wa w') := clone_any x wa hb.src hm
  have h0 : (0 : Int) ≤ (j : Int) := by omega
  have h1 : ¬ (ls.length : Int) < (j : Int) := by omega
  have h2 : (j : Int) < (ss.length : Int) := by omega
  have HBA : Hid (Below w.heap.size w wa ∧ w.heap.size < wa.heap.size) := ⟨hba, (Array.getElem?_eq_some_iff.1 HZ.out).1⟩
  clear h hx hb hca hba hl
  generalize ss[j] = l at *
  generalize ls.length = n at *
  generalize ss.length = m at *
  go_enter Tryd.func20, Tryd.ntmps20
  go_wp2_with fail
  rw [HWA.out]
  refine HL.out.mono ?_
  rintro e w1 ⟨rfl, hw⟩
  obtain rfl : wa = w1 := hw.symm
  go_wp2_with fail
  refine HC.out.mono ?_
  rintro e w2 ⟨u, rfl, ho, hb⟩
  have HZ2 : Hid (w2.heap[w.heap.size]? = some (.cells #[.int .i64 0, .slice none 0 0] 44 (0, 0))) := (hb.block _ HBA.out.2).trans HZ.out
  have x0 : w2.cell? ⟨w.heap.size, 0, none⟩ = some (.int .i64 0) := by rw [cell_of_row _ _ _ _ _ _ HZ2.out]; rfl
  have y0 : w2.frozen? ⟨w.heap.size, 0, none⟩ = false := frozen_of_row _ _ _ _ _ HZ2.out
  have x1 : w2.cell? ⟨w.heap.size, 1, none⟩ = some (.slice none 0 0) := by rw [cell_of_row _ _ _ _ _ _ HZ2.out]; rfl
  have y1 : w2.frozen? ⟨w.heap.size, 1, none⟩ = false := frozen_of_row _ _ _ _ _ HZ2.out
  have HO : Hid (w2.ownsRow (w.heap.size + 1) 5 1 u l.length (ints .u8 l)) := own_older ho HBA.out.2
  have HB : Hid (Below w.heap.size w w2) := HBA.out.1.trans (hb.mono HBA.out.1.size)
  obtain ⟨uq, uc, rfl⟩ := own_slice ho
  clear ho hb HC HL HZ
  generalize hll : l.length = ll at *
  go_wp2_with fail
  refine bodyPost_ret (results_row2 rfl _ _ w.heap.size 44 _ (0, 0) _ rfl (row_two HZ2.out _ _) Tryd.underlying44 rfl (by kernel_rfl)) rfl ⟨_, rfl, ?_, ?_⟩
  · rw [hll]
    refine own_older (own_only (own_only HO.out (Only.setCell (bs := [w.heap.size]) _ ⟨w.heap.size, 0, none⟩ _ (by simp)) (own_off HO.out (by simp))) (Only.setCell (bs := [w.heap.size]) _ ⟨w.heap.size, 1, none⟩ _ (by simp)) (own_off HO.out (by simp))) (Nat.le_succ _)
  · exact (HB.out.setCell (p := ⟨w.heap.size, 0, none⟩) (Nat.le_refl _) _).setCell (p := ⟨w.heap.size, 1, none⟩) (Nat.le_refl _) _
set_option maxHeartbeats 1000000 in
/-- A head is held against the chain, one that is there. -/
theorem Check_at (h : ChIs B Z w c p lv sv ls ss) (j : Nat) (l k : List Nat) (hv : Value) (hj : j ≤ ls.length) (hl : ss[j]? = some l) (hk : Src w hv k) : Calls Tryd.prog 18 #[.pointer (some ⟨c, 0, none⟩), .agg #[.int .i64 (j : Int), hv]] w fun e w' => e = .returned (.int .i64 (if k = l then 0 else 24)) ∧ Below w.heap.size w w' := by
  have hs := get_lt hl
  obtain ⟨wa, HWA⟩ : ∃ wa, Hid (w.alloc (.cells #[.int .i64 (j : Int), hv] 44) = wa) := ⟨_, rfl⟩
  have hba : Below w.heap.size w wa := by rw [← HWA.out]; exact below_alloc' w _
  have hca := h.below hba
  have HZ : wa.heap[w.heap.size]? = some (.cells #[.int .i64 (j : Int), hv] 44 (0, 0)) := by rw [← HWA.out]; exact heap_alloc_new w _
  have x0 : wa.cell? ⟨w.heap.size, 0, none⟩ = some (.int .i64 (j : Int)) := by rw [cell_of_row _ _ _ _ _ _ HZ]; rfl
  have x1 : wa.cell? ⟨w.heap.size, 1, none⟩ = some hv := by rw [cell_of_row _ _ _ _ _ _ HZ]; rfl
  have HL : Hid (∀ w', Below wa.heap.size wa w' → Calls Tryd.prog 16 #[.pointer (some ⟨c, 0, none⟩)] w' fun e w'' => e = .returned (.int .i64 (ls.length : Int)) ∧ w'' = w') := fun w' hb => Len_any (hca.below hb)
  obtain ⟨_, _, c2, _⟩ := hca.cells
  obtain ⟨xs, hx⟩ := hca.sums
  obtain ⟨g, cc, x, rfl, _, hc, hb⟩ := hx.at hs
  obtain rfl : ss[j] = l := by rw [List.getElem?_eq_getElem hs] at hl; exact Option.some.inj hl
  have HE : Hid (∀ w', Below wa.heap.size wa w' → Calls Tryd.prog 29 #[hv, x] w' fun e w'' => e = .returned (.bool (decide (k = ss[j]))) ∧ w'' = w') := fun w' hw => equal_any hv x w' ((hk.below hba).below hw) (hb.src.below hw)
  obtain ⟨xp, xc, rfl, _⟩ := hb.src.slice
  obtain ⟨hp, hcp, rfl, _⟩ := hk.slice
  have h0 : ¬ (j : Int) < 0 := by omega
  have h0' : (0 : Int) ≤ (j : Int) := by omega
  have h1 : ¬ (ls.length : Int) < (j : Int) := by omega
  have h2 : (j : Int) < (ss.length : Int) := by omega
  have HB : Hid (∀ w', Below wa.heap.size wa w' → Below w.heap.size w w') := fun w' hw => hba.trans (hw.mono hba.size)
  have key : ∀ (r : Bool) (R : Int), decide (k = ss[j]) = r → (R = if r then 0 else 24) → Calls Tryd.prog 18 #[.pointer (some ⟨c, 0, none⟩), .agg #[.int .i64 (j : Int), .slice hp k.length hcp]] w fun e w' => e = .returned (.int .i64 R) ∧ Below w.heap.size w w' := by
    intro r R hr hR
    rw [hr] at HE
    clear hr h hx hb hca hba hl hk HZ
    generalize k.length = kl at *
    generalize ss[j].length = sl at *
    generalize ls.length = n at *
    generalize ss.length = m at *
    cases r with
    | true =>
      have eR : R = 0 := by rw [hR]; rfl
      clear hR
      subst eR
      go_enter Tryd.func18, Tryd.ntmps18
      go_wp2_with fail
      rw [HWA.out]
      go_wp2_with fail
      go_quiet ((go_at_call 16; exact Calls.quiet_of_same (HL.out _ (below_drewN _ _ _))))
      go_wp2_with fail
      go_quiet ((go_at_call 29; exact (HE.out _ (below_drewN _ _ _)).mono fun _ _ h => ⟨h.1, _, h.2⟩))
      go_wp2_with fail
      go_ret
      exact ⟨rfl, HB.out _ ((below_drewN _ _ _).trans (below_drewN _ _ _))⟩
    | false =>
      have eR : R = 24 := by rw [hR]; rfl
      clear hR
      subst eR
      go_enter Tryd.func18, Tryd.ntmps18
      go_wp2_with fail
      rw [HWA.out]
      go_wp2_with fail
      go_quiet ((go_at_call 16; exact Calls.quiet_of_same (HL.out _ (below_drewN _ _ _))))
      go_wp2_with fail
      go_quiet ((go_at_call 29; exact (HE.out _ (below_drewN _ _ _)).mono fun _ _ h => ⟨h.1, _, h.2⟩))
      go_wp2_with fail
      go_ret
      exact ⟨rfl, HB.out _ ((below_drewN _ _ _).trans (below_drewN _ _ _))⟩
  by_cases he : k = ss[j]
  · exact key true _ (decide_eq_true he) (by rw [if_pos he]; rfl)
  · exact key false _ (decide_eq_false he) (by rw [if_neg he]; rfl)
set_option maxHeartbeats 1000000 in
/-- A head that the chain can't have. -/
theorem Check_out (h : ChIs B Z w c p lv sv ls ss) (i : Int) (hp : Option Addr) (hn hc : Nat) (hi : i < 0 ∨ (ls.length : Int) < i) : Calls Tryd.prog 18 #[.pointer (some ⟨c, 0, none⟩), .agg #[.int .i64 i, .slice hp hn hc]] w fun e w' => e = .returned (.int .i64 (if i < 0 then 12 else 14)) ∧ Below w.heap.size w w' := by
  obtain ⟨wa, HWA⟩ : ∃ wa, Hid (w.alloc (.cells #[.int .i64 i, .slice hp hn hc] 44) = wa) := ⟨_, rfl⟩
  have hba : Below w.heap.size w wa := by rw [← HWA.out]; exact below_alloc' w _
  have hca := h.below hba
  have HZ : wa.heap[w.heap.size]? = some (.cells #[.int .i64 i, .slice hp hn hc] 44 (0, 0)) := by rw [← HWA.out]; exact heap_alloc_new w _
  have x0 : wa.cell? ⟨w.heap.size, 0, none⟩ = some (.int .i64 i) := by rw [cell_of_row _ _ _ _ _ _ HZ]; rfl
  have HL : Hid (∀ w', Below wa.heap.size wa w' → Calls Tryd.prog 16 #[.pointer (some ⟨c, 0, none⟩)] w' fun e w'' => e = .returned (.int .i64 (ls.length : Int)) ∧ w'' = w') := fun w' hb => Len_any (hca.below hb)
  have HB : Hid (∀ w', Below wa.heap.size wa w' → Below w.heap.size w w') := fun w' hw => hba.trans (hw.mono hba.size)
  clear h hca hba HZ
  generalize ls.length = n at *
  by_cases h0 : i < 0
  · rw [if_pos h0]
    clear hi
    go_enter Tryd.func18, Tryd.ntmps18
    go_wp2_with fail
    rw [HWA.out]
    go_wp2_with fail
    go_ret
    exact ⟨rfl, HB.out _ (Below.refl _ _)⟩
  · rw [if_neg h0]
    have h1 : (n : Int) < i := by omega
    clear hi
    go_enter Tryd.func18, Tryd.ntmps18
    go_wp2_with fail
    rw [HWA.out]
    go_wp2_with fail
    go_quiet ((go_at_call 16; exact Calls.quiet_of_same (HL.out _ (below_drewN _ _ _))))
    go_wp2_with fail
    go_ret
    exact ⟨rfl, HB.out _ (below_drewN _ _ _)⟩
set_option maxHeartbeats 1000000 in
/-- The head of all. -/
theorem Head_any (h : ChIs B Z w c p lv sv ls ss) (l : List Nat) (hl : ss[ls.length]? = some l) (hm : l.length ≤ 50000) : Calls Tryd.prog 17 #[.pointer (some ⟨c, 0, none⟩)] w fun e w' => ∃ u, e = .returned (.agg #[.int .i64 (ls.length : Int), u]) ∧ w'.ownsRow w.heap.size 5 1 u l.length (ints .u8 l) ∧ Below w.heap.size w w' := by
  obtain ⟨wa, HWA⟩ : ∃ wa, Hid (w.alloc (.cells #[.int .i64 0, .slice none 0 0] 44) = wa) := ⟨_, rfl⟩
  have hba : Below w.heap.size w wa := by rw [← HWA.out]; exact below_alloc' w _
  have HZ : Hid (wa.heap[w.heap.size]? = some (.cells #[.int .i64 0, .slice none 0 0] 44 (0, 0))) := by rw [← HWA.out]; exact heap_alloc_new w _
  have hca := h.below hba
  have HL : Hid (Calls Tryd.prog 16 #[.pointer (some ⟨c, 0, none⟩)] wa fun e w' => e = .returned (.int .i64 (ls.length : Int)) ∧ w' = wa) := Len_any hca
  have HA : Hid (Calls Tryd.prog 20 #[.pointer (some ⟨c, 0, none⟩), .int .i64 (ls.length : Int)] wa fun e w' => ∃ u, e = .returned (.tuple #[.agg #[.int .i64 (ls.length : Int), u], .bool true]) ∧ w'.ownsRow wa.heap.size 5 1 u l.length (ints .u8 l) ∧ Below wa.heap.size wa w') := At_at hca ls.length l (Nat.le_refl _) hl hm
  have HBA : Hid (Below w.heap.size w wa ∧ w.heap.size < wa.heap.size) := ⟨hba, (Array.getElem?_eq_some_iff.1 HZ.out).1⟩
  clear h hca hba hl
  generalize ls.length = n at *
  go_enter Tryd.func17, Tryd.ntmps17
  go_wp2_with fail
  rw [HWA.out]
  refine HL.out.mono ?_
  rintro e w1 ⟨rfl, hw⟩
  obtain rfl : wa = w1 := hw.symm
  go_wp2_with fail
  refine HA.out.mono ?_
  rintro e w2 ⟨u, rfl, ho, hb⟩
  have HZ2 : w2.heap[w.heap.size]? = some (.cells #[.int .i64 0, .slice none 0 0] 44 (0, 0)) := (hb.block _ HBA.out.2).trans HZ.out
  have HO : Hid (w2.ownsRow (w.heap.size + 1) 5 1 u l.length (ints .u8 l)) := own_older ho HBA.out.2
  have HB : Hid (Below w.heap.size w w2) := HBA.out.1.trans (hb.mono HBA.out.1.size)
  obtain ⟨uq, uc, rfl⟩ := own_slice ho
  obtain ⟨w3, HW3⟩ : ∃ w3, Hid (w2.alloc (.cells #[.int .i64 (n : Int), .slice uq l.length uc] 44) = w3) := ⟨_, rfl⟩
  have hb3 : Below w2.heap.size w2 w3 := by rw [← HW3.out]; exact below_alloc' w2 _
  have HZ3 : Hid (w3.heap[w.heap.size]? = some (.cells #[.int .i64 0, .slice none 0 0] 44 (0, 0))) := (hb3.block _ (Array.getElem?_eq_some_iff.1 HZ2).1).trans HZ2
  have hz3 : w3.heap[w2.heap.size]? = some (.cells #[.int .i64 (n : Int), .slice uq l.length uc] 44 (0, 0)) := by rw [← HW3.out]; exact heap_alloc_new w2 _
  have z0 : (w2.alloc (.cells #[.int .i64 (n : Int), .slice uq l.length uc] 44)).cell? ⟨w2.heap.size, 0, none⟩ = some (.int .i64 (n : Int)) := by rw [HW3.out, cell_of_row _ _ _ _ _ _ hz3]; rfl
  have z1 : (w2.alloc (.cells #[.int .i64 (n : Int), .slice uq l.length uc] 44)).cell? ⟨w2.heap.size, 1, none⟩ = some (.slice uq l.length uc) := by rw [HW3.out, cell_of_row _ _ _ _ _ _ hz3]; rfl
  have x0 : (w2.alloc (.cells #[.int .i64 (n : Int), .slice uq l.length uc] 44)).cell? ⟨w.heap.size, 0, none⟩ = some (.int .i64 0) := by rw [HW3.out, cell_of_row _ _ _ _ _ _ HZ3.out]; rfl
  have y0 : (w2.alloc (.cells #[.int .i64 (n : Int), .slice uq l.length uc] 44)).frozen? ⟨w.heap.size, 0, none⟩ = false := by rw [HW3.out]; exact frozen_of_row _ _ _ _ _ HZ3.out
  have x1 : (w2.alloc (.cells #[.int .i64 (n : Int), .slice uq l.length uc] 44)).cell? ⟨w.heap.size, 1, none⟩ = some (.slice none 0 0) := by rw [HW3.out, cell_of_row _ _ _ _ _ _ HZ3.out]; rfl
  have y1 : (w2.alloc (.cells #[.int .i64 (n : Int), .slice uq l.length uc] 44)).frozen? ⟨w.heap.size, 1, none⟩ = false := by rw [HW3.out]; exact frozen_of_row _ _ _ _ _ HZ3.out
  have HO3 : Hid (w3.ownsRow (w.heap.size + 1) 5 1 (.slice uq l.length uc) l.length (ints .u8 l)) := own_only HO.out (Only.of_below hb3 []) (fun _ _ => by simp)
  have HB3 : Hid (Below w.heap.size w w3) := HB.out.trans (hb3.mono HB.out.size)
  clear ho hb HA HL HZ HZ2 hb3 hz3 HO HB
  generalize hll : l.length = ll at *
  go_wp2_with fail
  rw [HW3.out]
  refine bodyPost_ret (results_cell_row rfl _ _ w.heap.size 44 _ (0, 0) _ rfl (row_two HZ3.out _ _) Tryd.underlying44 rfl (by kernel_rfl)) rfl ⟨_, rfl, ?_, ?_⟩
  · rw [hll]
    refine own_older (own_only (own_only HO3.out (Only.setCell (bs := [w.heap.size]) _ ⟨w.heap.size, 0, none⟩ _ (by simp)) (own_off HO3.out (by simp))) (Only.setCell (bs := [w.heap.size]) _ ⟨w.heap.size, 1, none⟩ _ (by simp)) (own_off HO3.out (by simp))) (Nat.le_succ _)
  · exact (HB3.out.setCell (p := ⟨w.heap.size, 0, none⟩) (Nat.le_refl _) _).setCell (p := ⟨w.heap.size, 1, none⟩) (Nat.le_refl _) _
end
end Go.Proofs.YtkiohhkmlpgdoaaDoor.S7.Zz
/- One chain, with blocks that no element of it lies in: Sum. -/
namespace Go.Proofs.YtkiohhkmlpgdoaaDoor.S7.Zz
open Go.RowKit
attribute [local go_sem] Go.wp_at_zero Go.wp_at_succ
/-- A chain whose sums have grown by one. -/
theorem ChIs.push {B : Nat} {Z : List Nat} {w w1 w2 : World} {c p : Nat} {lv : Value} {q : Option Addr} {n cap0 : Nat} {ls ss : List (List Nat)} {xs : List Value} {r : List Nat} {u : Value} {g cap : Nat} {bs : List Nat}
    (h : ChIs B Z w c p lv (.slice q n cap0) ls ss) (hx : RowB B Z w (.slice q n cap0) xs ss) (hB : B ≤ w.heap.size) (hn : ss.length = n) (ho1 : Only bs w w1) (hbs : ∀ y ∈ bs, B ≤ y ∧ y ∉ fp c lv (.slice q n cap0) ∧ ∀ o, w.heap[y]? = some o → tyOf o ∈ TS)
    (hu : By B w1 u r) (hz : Off u Z) (hown : w2.ownsRow B 23 1 (.slice (some ⟨g, 0, none⟩) (n + 1) cap) (n + 1) (xs ++ [u])) (hg : (w1.alloc (.cells #[u] 23)).grownBy w2 (Value.slice q n cap0).ownBlock) (hat : (Value.slice q n cap0).ownBlock = some g ∨ g = w1.heap.size + 1) :
    ChIs B Z (w2.setCell ⟨c, 2, none⟩ (.slice (some ⟨g, 0, none⟩) (n + 1) cap)) c p lv (.slice (some ⟨g, 0, none⟩) (n + 1) cap) ls (ss ++ [r]) ∧ Only (fp c lv (.slice q n cap0)) w1 (w2.setCell ⟨c, 2, none⟩ (.slice (some ⟨g, 0, none⟩) (n + 1) cap)) ∧ w1.heap.size ≤ w2.heap.size := by
  have hc1 : w1.heap[c]? = w.heap[c]? := ho1.block c h.lt (fun e => (hbs c e).2.1 (by simp [fp]))
  have hk1 : Kx TS B w w1 := Kx.of_only ho1 hB (fun y hy => ⟨(hbs y hy).1, (hbs y hy).2.2⟩)
  have hl1 : ∀ b, lv.ownBlock = some b → w1.heap[b]? = w.heap[b]? := fun b hb => by
    obtain ⟨ys, hy⟩ := h.links
    exact ho1.block b (hy.lt b hb) (fun e => (hbs b e).2.1 (mem_fp.2 (.inr (.inl hb))))
  have hs1 : ∀ b, (Value.slice q n cap0).ownBlock = some b → w1.heap[b]? = w.heap[b]? := fun b hb => ho1.block b (hx.lt b hb) (fun e => (hbs b e).2.1 (mem_fp.2 (.inr (.inr hb))))
  have h1 : ChIs B Z w1 c p lv (.slice q n cap0) ls ss := h.keep hk1 (by decide) hc1 hl1 hs1
  have hx1 : RowB B Z w1 (.slice q n cap0) xs ss := hx.keep hk1 (by decide) hs1
  have hB1 : B ≤ w1.heap.size := Nat.le_trans hB ho1.size
  have hba := below_alloc' w1 (.cells #[u] 23)
  have h2 := h1.below hba
  have hx2 := hx1.below hba
  have ho2 : Only (fp c lv (.slice q n cap0)) (w1.alloc (.cells #[u] 23)) w2 := Only.of_grown hg (fun y hy => mem_fp.2 (.inr (.inr hy)))
  have ho3 : Only (fp c lv (.slice q n cap0)) w2 (w2.setCell ⟨c, 2, none⟩ (.slice (some ⟨g, 0, none⟩) (n + 1) cap)) := Only.setCell _ _ _ (by simp [fp])
  have ho : Only (fp c lv (.slice q n cap0)) w1 (w2.setCell ⟨c, 2, none⟩ (.slice (some ⟨g, 0, none⟩) (n + 1) cap)) := ((Only.of_below hba _).trans ho2).trans ho3
  have hk : Kx TS B w1 (w2.setCell ⟨c, 2, none⟩ (.slice (some ⟨g, 0, none⟩) (n + 1) cap)) := Kx.of_only ho hB1 h1.fpty
  have hcs : ∀ b, (Value.slice q n cap0).ownBlock = some b → b ≠ c := fun b hb e => by
    obtain ⟨_, cs, h3⟩ := hx1.ty b hb
    rw [e, h1.box] at h3
    cases h3
  have hc2 : w2.heap[c]? = some (.cells #[.pointer (some ⟨p, 0, none⟩), lv, .slice q n cap0] 73 (0, 0)) := by
    rw [hg.block c (Nat.lt_of_lt_of_le h1.lt hba.size) (fun e => hcs c e.symm rfl)]
    exact h2.box
  have hgc : g ≠ c := by
    rcases hat with e | e
    · exact hcs g e
    · have := h1.lt; omega
  have hk2 : Kx TS B w2 (w2.setCell ⟨c, 2, none⟩ (.slice (some ⟨g, 0, none⟩) (n + 1) cap)) := Kx.of_only (Only.setCell (bs := [c]) w2 ⟨c, 2, none⟩ _ (by simp)) (Nat.le_trans hB1 (Nat.le_trans hba.size hg.size)) (fun y hy => by
    rw [List.mem_singleton.1 hy]
    exact ⟨h.low, fun o ho => by rw [hc2] at ho; cases ho; simp [TS, tyOf]⟩)
  have hown3 : (w2.setCell ⟨c, 2, none⟩ (.slice (some ⟨g, 0, none⟩) (n + 1) cap)).ownsRow B 23 1 (.slice (some ⟨g, 0, none⟩) (n + 1) cap) (ss.length + 1) (xs ++ [u]) := by
    rw [hn]
    exact own_only hown (Only.setCell (bs := [c]) w2 ⟨c, 2, none⟩ _ (by simp)) (Off.at (ad := ⟨g, 0, none⟩) (by simpa using hgc))
  refine ⟨⟨h.low, heap_setCell_same w2 c 2 _ 73 _ hc2, ?_, ⟨_, hx1.push hown3 hk (by decide) ⟨hu.kx hk (by decide), hz⟩⟩, fun b hb e => ?_⟩, ho, Nat.le_trans hba.size hg.size⟩
  · obtain ⟨ys, hy⟩ := h1.links
    refine ⟨ys, hy.keep hk (by decide) (fun b hb => ?_)⟩
    have hbc : b ≠ c := fun e => by
      obtain ⟨_, cs, h3⟩ := hy.ty b hb
      rw [e, h1.box] at h3
      cases h3
    rw [Below.heap_setCell _ _ _ _ (fun e => hbc e), hg.block b (Nat.lt_of_lt_of_le (hy.lt b hb) hba.size) (fun e => h.ap b hb e.symm)]
    exact hba.block b (hy.lt b hb)
  · cases e
    rcases hat with e | e
    · exact h.ap g hb e
    · obtain ⟨ys, hy⟩ := h1.links
      have := hy.lt g hb
      omega
set_option maxHeartbeats 16000000 in
set_option maxRecDepth 20000 in
theorem addSum_any (B : Nat) (Z : List Nat) (c p : Nat) (lv sv : Value) (ls ss : List (List Nat)) (w : World) (a1 a2 : Value) (la lb r : List Nat) (bs : List Nat) (I : World → Prop) (h : ChIs B Z w c p lv sv ls ss) (hB : B ≤ w.heap.size) (ha : Src w a1 la) (hb : Src w a2 lb) (hm : ss.length ≤ 1000) (hZ : ∀ z ∈ Z, z < w.heap.size)
    (hr : ∀ x ∈ r, x < 256)
    (hsum : ∀ w1 g, w1.cell? ⟨g, 0, none⟩ = some a1 → w1.cell? ⟨g, 1, none⟩ = some a2 → Below w.heap.size w w1 → Calls Tryd.prog 35 #[.pointer (some ⟨p, 0, none⟩), .slice (some ⟨g, 0, none⟩) 2 2] w1 fun e w' => ∃ u, e = .returned u ∧ w'.ownsRow w1.heap.size 5 1 u r.length (ints .u8 r) ∧ I w' ∧ Only bs w1 w')
    (hbs : ∀ y ∈ bs, B ≤ y ∧ y ∉ fp c lv sv ∧ y < w.heap.size ∧ ∀ o, w.heap[y]? = some o → tyOf o ∈ TS)
    (hI : ∀ w1 w2, I w1 → ChIs B Z w1 c p lv sv ls ss → Only (fp c lv sv) w1 w2 → I w2) :
    Calls Tryd.prog 26 #[.pointer (some ⟨c, 0, none⟩), a1, a2] w fun e w' => e = .returned (.tuple #[]) ∧ ∃ sv', ChIs B Z w' c p lv sv' ls (ss ++ [r]) ∧ I w' ∧ Only (bs ++ fp c lv sv) w w' ∧ Mv w.heap.size sv sv' := by
  obtain ⟨c0, _, c2, cf⟩ := h.cells
  obtain ⟨xs, hx⟩ := h.sums
  obtain ⟨q, cap0, rfl⟩ := hx.slice
  obtain ⟨n, hn⟩ : ∃ n, ss.length = n := ⟨_, rfl⟩
  rw [hn] at h hx c2 hm hbs hI ⊢
  have HN : Hid (ss.length = n) := hn
  clear hn
  have f2 := cf 2
  have lc := h.lt
  obtain ⟨wa, HWA⟩ : ∃ wa, Hid ((w.alloc (.cells #[a1, a2] 23)).drew = wa) := ⟨_, rfl⟩
  have hba : Below w.heap.size w wa := by rw [← HWA.out]; exact (below_alloc' w _).trans (below_drewN 1 _ _)
  have hga : wa.heap[w.heap.size]? = some (.cells #[a1, a2] 23 (0, 0)) := by rw [← HWA.out]; exact heap_alloc_new w _
  have HC := hsum wa w.heap.size (by rw [cell_of_row _ _ _ _ _ _ hga]; rfl) (by rw [cell_of_row _ _ _ _ _ _ hga]; rfl) hba
  have HX : Hid (∀ w1 u, w1.ownsRow wa.heap.size 5 1 u r.length (ints .u8 r) → I w1 → Only bs wa w1 → (w1.cell? ⟨c, 2, none⟩ = some (.slice q n cap0) ∧ w1.frozen? ⟨c, 2, none⟩ = false ∧ c < w1.heap.size ∧ w1.ownsRow B 23 1 (.slice q n cap0) n xs ∧ B ≤ w1.heap.size) ∧
      ∀ g cap w2, w2.ownsRow B 23 1 (.slice (some ⟨g, 0, none⟩) (n + 1) cap) (n + 1) (xs ++ [u]) → (w1.alloc (.cells #[u] 23)).grownBy w2 (Value.slice q n cap0).ownBlock → ((Value.slice q n cap0).ownBlock = some g ∨ g = w1.heap.size + 1) → ∃ sv', ChIs B Z (w2.setCell ⟨c, 2, none⟩ (.slice (some ⟨g, 0, none⟩) (n + 1) cap)) c p lv sv' ls (ss ++ [r]) ∧ I (w2.setCell ⟨c, 2, none⟩ (.slice (some ⟨g, 0, none⟩) (n + 1) cap)) ∧ Only (bs ++ fp c lv (.slice q n cap0)) w (w2.setCell ⟨c, 2, none⟩ (.slice (some ⟨g, 0, none⟩) (n + 1) cap)) ∧ Mv w.heap.size (.slice q n cap0) sv') := by
    intro w1 u ho hi hon
    have hon' : Only bs w w1 := (Only.of_below hba bs).trans hon
    have hbs' : ∀ y ∈ bs, B ≤ y ∧ y ∉ fp c lv (.slice q n cap0) ∧ ∀ o, w.heap[y]? = some o → tyOf o ∈ TS := fun y hy => ⟨(hbs y hy).1, (hbs y hy).2.1, (hbs y hy).2.2.2⟩
    have hk1 : Kx TS B w w1 := Kx.of_only hon' hB (fun y hy => ⟨(hbs' y hy).1, (hbs' y hy).2.2⟩)
    have hc1 : w1.heap[c]? = w.heap[c]? := hon'.block c h.lt (fun e => (hbs' c e).2.1 (by simp [fp]))
    have hs1 : ∀ b, (Value.slice q n cap0).ownBlock = some b → w1.heap[b]? = w.heap[b]? := fun b hb => hon'.block b (hx.lt b hb) (fun e => (hbs' b e).2.1 (mem_fp.2 (.inr (.inr hb))))
    have hx1 : RowB B Z w1 (.slice q n cap0) xs ss := hx.keep hk1 (by decide) hs1
    have h1 : ChIs B Z w1 c p lv (.slice q n cap0) ls ss := h.keep hk1 (by decide) hc1 (fun b hb => by
      obtain ⟨ys, hy⟩ := h.links
      exact hon'.block b (hy.lt b hb) (fun e => (hbs' b e).2.1 (mem_fp.2 (.inr (.inl hb))))) hs1
    obtain ⟨_, _, d2, df⟩ := h1.cells
    refine ⟨⟨d2, df 2, h1.lt, by have := hx1.own; rw [HN.out] at this; exact this, Nat.le_trans hB hon'.size⟩, fun g cap w2 hown hg hat => ?_⟩
    obtain ⟨r1, r2, r3⟩ := h.push hx hB HN.out hon' hbs' (By.own hr ho) (own_off ho (fun z hz => Nat.lt_of_lt_of_le (hZ z hz) hba.size)) hown hg hat
    refine ⟨_, r1, hI w1 _ hi h1 r2, (hon'.more (fun y hy => List.mem_append_left _ hy)).trans (r2.more (fun y hy => List.mem_append_right _ hy)), g, rfl, ?_⟩
    rcases hat with e | e
    · exact .inl e
    · exact .inr (by have := hon'.size; omega)
  have av : (Value.slice q n cap0).ownBlock ≠ some c := fun e => by
    obtain ⟨_, cs, h3⟩ := hx.ty c e
    rw [h.box] at h3
    cases h3
  have hxn : n + 1 ≤ maxLen := by unfold maxLen; omega
  have hxb : (n + 1) * 24 ≤ 140737488355328 := by omega
  obtain ⟨i0, hi0, hz1, hz2, hz0⟩ := info23e
  obtain ⟨pa1, ca1, rfl, _⟩ := ha.slice
  obtain ⟨pa2, ca2, rfl, _⟩ := hb.slice
  have HQ : Hid (∀ (u : Value) (w1 : World), w1.ownsRow wa.heap.size 5 1 u r.length (ints .u8 r) → ∃ uq uc, u = Value.slice uq r.length uc) := fun u w1 ho => own_slice ho
  have HCC : Hid (Calls Tryd.prog 35 #[.pointer (some ⟨p, 0, none⟩), .slice (some ⟨w.heap.size, 0, none⟩) 2 2] wa fun e w' => ∃ u, e = .returned u ∧ w'.ownsRow wa.heap.size 5 1 u r.length (ints .u8 r) ∧ I w' ∧ Only bs wa w') := HC
  rw [← HWA.out] at HCC
  clear hsum hbs hI HC h hx ha hb hba hga cf hr hB hm hZ
  generalize la.length = l1 at *
  generalize lb.length = l2 at *
  generalize r.length = rl at *
  go_enter Tryd.func26, Tryd.ntmps26
  go_wp2_with fail
  go_region_law ((first | (refine step_call2 rfl 35 cf35 (.tmp 14) (.tmp 17) #[26, 22] rfl _ _ rfl rfl (HCC.out.mono ?_); rintro e w1 ⟨u, rfl, ho, hi, hon⟩; refine ⟨_, rfl, ?_⟩; obtain ⟨uq, uc, rfl⟩ := HQ.out u w1 (by rw [← HWA.out]; exact ho); have HXX := HX.out w1 _ (by rw [← HWA.out]; exact ho) hi (by rw [← HWA.out]; exact hon); obtain ⟨⟨e1, e2, e3, e4, e5⟩, HF⟩ := HXX) | (refine step_append_lies _ (by rfl) _ _ _ (by rfl) B 23 i0 _ 1 24 Tryd.underlying22 hi0 hz0 hz1 hz2 rfl (by omega) (.slice q n cap0) n xs (by rfl) (e4.alloc _) ⟨w1.heap.size, 0, none⟩ 1 1 [.slice uq rl uc] (by rfl) (by rfl) (World.news_of_block (cs := #[.slice uq rl uc]) (t := 23) (fr := (0, 0)) (heap_alloc_new w1 _)) (by simp [Value.oneCell']) (by omega) hxn hxb (by simp; omega) (w1.heap.size + 1) (by simp) ?_; intro gg cap w2 hown2 hgrow hat hlt; have hc2 : w2.cell? ⟨c, 2, none⟩ = some (.slice q n cap0) := (hgrow.cell_far _ (by simp; omega) (Ne.symm av)).trans (((below_alloc' w1 _).cell (p := ⟨c, 2, none⟩) e3).trans e1); have hf2 : w2.frozen? ⟨c, 2, none⟩ = false := (hgrow.frozen_far _ (by simp; omega) (Ne.symm av)).trans ((frozen?_alloc_cells w1 _ _ _).trans e2))))
  all_goals
    have HZ : Hid (∃ sv', ChIs B Z (w2.setCell ⟨c, 2, none⟩ (.slice (some ⟨gg, 0, none⟩) (n + 1) cap)) c p lv sv' ls (ss ++ [r]) ∧ I (w2.setCell ⟨c, 2, none⟩ (.slice (some ⟨gg, 0, none⟩) (n + 1) cap)) ∧ Only (bs ++ fp c lv (.slice q n cap0)) w (w2.setCell ⟨c, 2, none⟩ (.slice (some ⟨gg, 0, none⟩) (n + 1) cap)) ∧ Mv w.heap.size (.slice q n cap0) sv') := HF _ _ _ hown2 hgrow hat
    clear HF hown2 hgrow hat
    go_wp2_with fail
    go_end0
    exact ⟨rfl, HZ.out⟩
end Go.Proofs.YtkiohhkmlpgdoaaDoor.S7.Zz
/- One chain, with blocks that no element of it lies in: App. -/
namespace Go.Proofs.YtkiohhkmlpgdoaaDoor.S7.Zz
open Go.RowKit
attribute [local go_sem] Go.wp_at_zero Go.wp_at_succ
/-- A chain whose links have grown by one. -/
theorem ChIs.pushL {B : Nat} {Z : List Nat} {w1 w2 : World} {c p : Nat} {sv : Value} {q : Option Addr} {n cap0 : Nat} {ls ss : List (List Nat)} {xs : List Value} {r : List Nat} {u : Value} {g cap : Nat}
    (h1 : ChIs B Z w1 c p (.slice q n cap0) sv ls ss) (hx1 : RowB B Z w1 (.slice q n cap0) xs ls) (hB1 : B ≤ w1.heap.size) (hn : ls.length = n)
    (hu : By B w1 u r) (hz : Off u Z) (hown : w2.ownsRow B 23 1 (.slice (some ⟨g, 0, none⟩) (n + 1) cap) (n + 1) (xs ++ [u])) (hg : (w1.alloc (.cells #[u] 23)).grownBy w2 (Value.slice q n cap0).ownBlock) (hat : (Value.slice q n cap0).ownBlock = some g ∨ g = w1.heap.size + 1) :
    ChIs B Z (w2.setCell ⟨c, 1, none⟩ (.slice (some ⟨g, 0, none⟩) (n + 1) cap)) c p (.slice (some ⟨g, 0, none⟩) (n + 1) cap) sv (ls ++ [r]) ss ∧ Only (c :: (Value.slice q n cap0).ownBlock.toList) w1 (w2.setCell ⟨c, 1, none⟩ (.slice (some ⟨g, 0, none⟩) (n + 1) cap)) := by
  have hba := below_alloc' w1 (.cells #[u] 23)
  have h2 := h1.below hba
  have hsub : ∀ y ∈ c :: (Value.slice q n cap0).ownBlock.toList, y ∈ fp c (.slice q n cap0) sv := fun y hy => by
    rcases List.mem_cons.1 hy with e | e
    · exact mem_fp.2 (.inl e)
    · exact mem_fp.2 (.inr (.inl (by simpa using e)))
  have ho2 : Only (c :: (Value.slice q n cap0).ownBlock.toList) (w1.alloc (.cells #[u] 23)) w2 := Only.of_grown hg (fun y hy => List.mem_cons_of_mem _ (by simpa using hy))
  have ho3 : Only (c :: (Value.slice q n cap0).ownBlock.toList) w2 (w2.setCell ⟨c, 1, none⟩ (.slice (some ⟨g, 0, none⟩) (n + 1) cap)) := Only.setCell _ _ _ (by simp)
  have ho : Only (c :: (Value.slice q n cap0).ownBlock.toList) w1 (w2.setCell ⟨c, 1, none⟩ (.slice (some ⟨g, 0, none⟩) (n + 1) cap)) := ((Only.of_below hba _).trans ho2).trans ho3
  have hk : Kx TS B w1 (w2.setCell ⟨c, 1, none⟩ (.slice (some ⟨g, 0, none⟩) (n + 1) cap)) := Kx.of_only ho hB1 (fun y hy => h1.fpty y (hsub y hy))
  have hcs : ∀ b, (Value.slice q n cap0).ownBlock = some b → b ≠ c := fun b hb e => by
    obtain ⟨_, cs, h3⟩ := hx1.ty b hb
    rw [e, h1.box] at h3
    cases h3
  have hc2 : w2.heap[c]? = some (.cells #[.pointer (some ⟨p, 0, none⟩), .slice q n cap0, sv] 73 (0, 0)) := by
    rw [hg.block c (Nat.lt_of_lt_of_le h1.lt hba.size) (fun e => hcs c e.symm rfl)]
    exact h2.box
  have hgc : g ≠ c := by
    rcases hat with e | e
    · exact hcs g e
    · have := h1.lt; omega
  have hown3 : (w2.setCell ⟨c, 1, none⟩ (.slice (some ⟨g, 0, none⟩) (n + 1) cap)).ownsRow B 23 1 (.slice (some ⟨g, 0, none⟩) (n + 1) cap) (ls.length + 1) (xs ++ [u]) := by
    rw [hn]
    exact own_only hown (Only.setCell (bs := [c]) w2 ⟨c, 1, none⟩ _ (by simp)) (Off.at (ad := ⟨g, 0, none⟩) (by simpa using hgc))
  refine ⟨⟨h1.low, heap_setCell_same w2 c 1 _ 73 _ hc2, ⟨_, hx1.push hown3 hk (by decide) ⟨hu.kx hk (by decide), hz⟩⟩, ?_, fun b hb e => ?_⟩, ho⟩
  · obtain ⟨ys, hy⟩ := h1.sums
    refine ⟨ys, hy.keep hk (by decide) (fun b hb => ?_)⟩
    have hbc : b ≠ c := fun e => by
      obtain ⟨_, cs, h3⟩ := hy.ty b hb
      rw [e, h1.box] at h3
      cases h3
    rw [Below.heap_setCell _ _ _ _ (fun e => hbc e), hg.block b (Nat.lt_of_lt_of_le (hy.lt b hb) hba.size) (fun e => h1.ap b e.symm hb)]
    exact hba.block b (hy.lt b hb)
  · cases hb
    rcases hat with e2 | e2
    · exact h1.ap g e2 e
    · obtain ⟨ys, hy⟩ := h1.sums
      have := hy.lt g e
      omega
theorem Append_size (B : Nat) (Z : List Nat) (c p : Nat) (lv sv : Value) (ls ss : List (List Nat)) (w : World) (bp : Option Addr) (n bc : Nat) (_h : ChIs B Z w c p lv sv ls ss) (hn : n < 1 ∨ 4096 < n) :
    Calls Tryd.prog 14 #[.pointer (some ⟨c, 0, none⟩), .slice bp n bc] w fun e w' => e = .returned (.int .i64 11) ∧ w' = w := by
  by_cases h1 : n < 1
  · have q1 : (n : Int) < 1 := by omega
    clear hn
    go_enter Tryd.func14, Tryd.ntmps14
    go_wp2_with fail
    go_ret
    exact ⟨rfl, rfl⟩
  · have q1 : ¬ (n : Int) < 1 := by omega
    have q2 : (4096 : Int) < (n : Int) := by omega
    clear hn
    go_enter Tryd.func14, Tryd.ntmps14
    go_wp2_with fail
    go_ret
    exact ⟨rfl, rfl⟩
theorem Append_full (B : Nat) (Z : List Nat) (c p : Nat) (lv sv : Value) (ls ss : List (List Nat)) (w : World) (bp : Option Addr) (n bc : Nat) (h : ChIs B Z w c p lv sv ls ss) (hn : 1 ≤ n ∧ n ≤ 4096) (hl : 64 ≤ ls.length) :
    Calls Tryd.prog 14 #[.pointer (some ⟨c, 0, none⟩), .slice bp n bc] w fun e w' => e = .returned (.int .i64 33) ∧ w' = w := by
  have HL : Hid (Calls Tryd.prog 16 #[.pointer (some ⟨c, 0, none⟩)] w fun e w' => e = .returned (.int .i64 (ls.length : Int)) ∧ w' = w) := Len_any h
  have q1 : ¬ (n : Int) < 1 := by omega
  have q2 : ¬ (4096 : Int) < (n : Int) := by omega
  have q3 : (64 : Int) ≤ (ls.length : Int) := by omega
  clear h hn hl
  generalize ls.length = m at *
  go_enter Tryd.func14, Tryd.ntmps14
  go_wp2_with fail
  refine HL.out.mono ?_
  rintro e w1 ⟨rfl, hw⟩
  obtain rfl : w = w1 := hw.symm
  go_wp2_with fail
  go_ret
  exact ⟨rfl, rfl⟩
set_option maxHeartbeats 16000000 in
set_option maxRecDepth 20000 in
theorem Append_any (B : Nat) (Z : List Nat) (c p : Nat) (lv sv : Value) (ls ss : List (List Nat)) (w : World) (bp : Option Addr) (bn bc : Nat) (b l r : List Nat) (bs : List Nat) (I : World → Prop) (h : ChIs B Z w c p lv sv ls ss) (hB : B ≤ w.heap.size) (hb : By B w (.slice bp bn bc) b) (hbn : 1 ≤ bn ∧ bn ≤ 4096) (hls : ls.length < 64) (hl : ss[ls.length]? = some l) (hm : ss.length ≤ 1000) (hZ : ∀ z ∈ Z, z < w.heap.size)
    (hr : ∀ x ∈ r, x < 256)
    (hsum : ∀ w1 g a1 a2, Src w1 a1 l → Src w1 a2 b → w1.cell? ⟨g, 0, none⟩ = some a1 → w1.cell? ⟨g, 1, none⟩ = some a2 → Below w.heap.size w w1 → Calls Tryd.prog 35 #[.pointer (some ⟨p, 0, none⟩), .slice (some ⟨g, 0, none⟩) 2 2] w1 fun e w' => ∃ u, e = .returned u ∧ w'.ownsRow w1.heap.size 5 1 u r.length (ints .u8 r) ∧ I w' ∧ Only bs w1 w')
    (hbs : ∀ y ∈ bs, B ≤ y ∧ y ∉ fp c lv sv ∧ y < w.heap.size ∧ ∀ o, w.heap[y]? = some o → tyOf o ∈ TS)
    (hI : ∀ w1 w2 lv' sv' ls' ss', I w1 → ChIs B Z w1 c p lv' sv' ls' ss' → Only (fp c lv' sv') w1 w2 → I w2) :
    Calls Tryd.prog 14 #[.pointer (some ⟨c, 0, none⟩), .slice bp bn bc] w fun e w' => e = .returned (.int .i64 0) ∧ ∃ lv' sv', ChIs B Z w' c p lv' sv' (ls ++ [b]) (ss ++ [r]) ∧ I w' ∧ Only (bs ++ fp c lv sv) w w' ∧ Mv w.heap.size sv sv' ∧ Mv w.heap.size lv lv' := by
  have HL : Hid (∀ w', Below w.heap.size w w' → Calls Tryd.prog 16 #[.pointer (some ⟨c, 0, none⟩)] w' fun e w'' => e = .returned (.int .i64 (ls.length : Int)) ∧ w'' = w') := fun w' hb => Len_any (h.below hb)
  obtain ⟨_, _, c2, _⟩ := h.cells
  obtain ⟨xs, hx⟩ := h.sums
  have hj := get_lt hl
  obtain ⟨g, cc, x, hsv, _, hc, hbx⟩ := hx.at hj
  obtain rfl : ss[ls.length] = l := by rw [List.getElem?_eq_getElem hj] at hl; exact Option.some.inj hl
  rw [hsv] at c2
  have hbl : b.length = bn := by
    obtain ⟨p', c', e, _⟩ := hb.src.slice
    simp only [Value.slice.injEq] at e
    exact e.2.1.symm
  obtain ⟨xp, xc, hxe, _⟩ := hbx.src.slice
  subst hxe
  obtain ⟨ys, hy⟩ := h.links
  obtain ⟨lq, lcap, hle⟩ := hy.slice
  have HAD : Hid (∀ w1, Below w.heap.size w w1 → Calls Tryd.prog 26 #[.pointer (some ⟨c, 0, none⟩), .slice xp ss[ls.length].length xc, .slice bp bn bc] w1 fun e w' => e = .returned (.tuple #[]) ∧ ∃ sv', ChIs B Z w' c p lv sv' ls (ss ++ [r]) ∧ I w' ∧ Only (bs ++ fp c lv sv) w w' ∧ Mv w.heap.size sv sv' ∧ By B w' (.slice bp bn bc) b) := by
    intro w1 hw1
    have hb1 := hb.below hw1
    refine (addSum_any B Z c p lv sv ls ss w1 (.slice xp ss[ls.length].length xc) (.slice bp bn bc) ss[ls.length] b r bs I (h.below hw1) (Nat.le_trans hB hw1.size) (hbx.src.below hw1) hb1.src hm (fun z hz => Nat.lt_of_lt_of_le (hZ z hz) hw1.size) hr (fun w2 g2 k1 k2 k3 => hsum w2 g2 _ _ ((hbx.src.below hw1).below k3) (hb1.src.below k3) k1 k2 (hw1.trans (k3.mono hw1.size))) (fun y hy => ⟨(hbs y hy).1, (hbs y hy).2.1, Nat.lt_of_lt_of_le (hbs y hy).2.2.1 hw1.size, fun o ho => (hbs y hy).2.2.2 o (by rw [← hw1.block y (hbs y hy).2.2.1]; exact ho)⟩) (fun w2 w3 k1 k2 k3 => hI w2 w3 _ _ _ _ k1 k2 k3)).mono ?_
    rintro e w2 ⟨rfl, sv', k1, k2, k3, g3, k4, k5⟩
    have hk : Kx TS B w1 w2 := Kx.of_only k3 (Nat.le_trans hB hw1.size) (fun y hy => by
      rcases List.mem_append.1 hy with e | e
      · exact ⟨(hbs y e).1, fun o ho => (hbs y e).2.2.2 o (by rw [← hw1.block y (hbs y e).2.2.1]; exact ho)⟩
      · exact (h.below hw1).fpty y e)
    exact ⟨rfl, sv', k1, k2, (Only.of_below hw1 _).trans k3, ⟨g3, k4, k5.imp id (fun e => Nat.le_trans hw1.size e)⟩, hb1.kx hk (by decide)⟩
  have HB : Hid (B ≤ w.heap.size) := hB
  have HBL : Hid (b.length = bn) := hbl
  have HII : Hid (∀ w1 w2 lv' sv' ls' ss', I w1 → ChIs B Z w1 c p lv' sv' ls' ss' → Only (fp c lv' sv') w1 w2 → I w2) := hI
  have HLV : Hid (lv = .slice lq ls.length lcap) := hle
  have HBS : Hid (∀ x ∈ b, x < 256) := hb.src.small
  have q1 : ¬ (bn : Int) < 1 := by omega
  have q2 : ¬ (4096 : Int) < (bn : Int) := by omega
  have q3 : ¬ (64 : Int) ≤ (ls.length : Int) := by omega
  have q4 : (0 : Int) ≤ (ls.length : Int) := by omega
  have q5 : (ls.length : Int) < (ss.length : Int) := by omega
  have q6 : ls.length < ss.length := hj
  have HN : Hid (ls.length < 64) := hls
  have HBN : Hid (bn ≤ 4096) := hbn.2
  /- what lies behind the second region -/
  have HX : Hid (∀ w1 sv', ChIs B Z w1 c p lv sv' ls (ss ++ [r]) → I w1 → Only (bs ++ fp c lv sv) w w1 → Mv w.heap.size sv sv' → By B w1 (.slice bp bn bc) b → ∃ zs, (w1.cell? ⟨c, 1, none⟩ = some (.slice lq ls.length lcap) ∧ (Value.slice lq ls.length lcap).ownBlock ≠ some c ∧ Calls Tryd.prog 28 #[.slice bp bn bc] w1.drew fun e w' => ∃ u, e = .returned u ∧ w'.ownsRow w1.drew.heap.size 5 1 u bn (ints .u8 b) ∧ Below w1.drew.heap.size w1.drew w') ∧
      ∀ w2 u, w2.ownsRow w1.drew.heap.size 5 1 u bn (ints .u8 b) → Below w1.drew.heap.size w1.drew w2 → (w2.cell? ⟨c, 1, none⟩ = some (.slice lq ls.length lcap) ∧ w2.frozen? ⟨c, 1, none⟩ = false ∧ c < w2.heap.size ∧ w2.ownsRow B 23 1 (.slice lq ls.length lcap) ls.length zs ∧ B ≤ w2.heap.size) ∧
        ∀ g cap w3, w3.ownsRow B 23 1 (.slice (some ⟨g, 0, none⟩) (ls.length + 1) cap) (ls.length + 1) (zs ++ [u]) → (w2.alloc (.cells #[u] 23)).grownBy w3 (Value.slice lq ls.length lcap).ownBlock → ((Value.slice lq ls.length lcap).ownBlock = some g ∨ g = w2.heap.size + 1) →
          ∃ lv' sv', ChIs B Z (w3.setCell ⟨c, 1, none⟩ (.slice (some ⟨g, 0, none⟩) (ls.length + 1) cap)) c p lv' sv' (ls ++ [b]) (ss ++ [r]) ∧ I (w3.setCell ⟨c, 1, none⟩ (.slice (some ⟨g, 0, none⟩) (ls.length + 1) cap)) ∧ Only (bs ++ fp c lv sv) w (w3.setCell ⟨c, 1, none⟩ (.slice (some ⟨g, 0, none⟩) (ls.length + 1) cap)) ∧ Mv w.heap.size sv sv' ∧ Mv w.heap.size lv lv') := by
    intro w1 sv' k1 k2 k3 k4 k5
    obtain ⟨zs, hz⟩ := k1.links
    rw [hle] at hz k1 k3 ⊢
    have d1 := k1.cells.2.1
    refine ⟨zs, ⟨d1, fun e => ?_, ?_⟩, fun w2 u ho hw => ?_⟩
    · obtain ⟨_, cs, h3⟩ := hz.ty c e
      rw [k1.box] at h3
      cases h3
    · have hcl := clone_any (.slice bp bn bc) w1.drew (show Src w1.drew _ _ from k5.src.below (below_drewN 1 _ _)) (by rw [hbl]; omega)
      rw [hbl] at hcl
      exact hcl
    · have hw1 : Below w1.heap.size w1 w2 := (below_drewN 1 w1 _).trans hw
      have c2' := k1.below hw1
      have z2 := hz.below hw1
      have hB2 : B ≤ w2.heap.size := Nat.le_trans hB (Nat.le_trans k3.size hw1.size)
      refine ⟨⟨c2'.cells.2.1, c2'.cells.2.2.2 1, c2'.lt, z2.own, hB2⟩, fun g cap w3 hown hg hat => ?_⟩
      obtain ⟨r1, r2⟩ := c2'.pushL z2 hB2 rfl (By.own (B := B) (base := w1.drew.heap.size) (n := bn) hb.src.small ho) (own_off ho (fun z hz => Nat.lt_of_lt_of_le (hZ z hz) k3.size)) hown hg hat
      have hi2 : I w2 := hI w1 w2 _ _ _ _ k2 k1 (Only.of_below hw1 _)
      have hfs : ∀ y ∈ c :: (Value.slice lq ls.length lcap).ownBlock.toList, y ∈ fp c (.slice lq ls.length lcap) sv' := fun y hy => by
        rcases List.mem_cons.1 hy with e | e
        · exact mem_fp.2 (.inl e)
        · exact mem_fp.2 (.inr (.inl (by simpa using e)))
      have hfs2 : ∀ y ∈ c :: (Value.slice lq ls.length lcap).ownBlock.toList, y ∈ bs ++ fp c (.slice lq ls.length lcap) sv := fun y hy => by
        refine List.mem_append_right _ ?_
        rcases List.mem_cons.1 hy with e | e
        · exact mem_fp.2 (.inl e)
        · exact mem_fp.2 (.inr (.inl (by simpa using e)))
      refine ⟨_, sv', r1, hI w2 _ _ _ _ _ hi2 c2' (r2.more hfs), (k3.trans (Only.of_below hw1 _)).trans (r2.more hfs2), k4, g, rfl, ?_⟩
      rcases hat with e | e
      · exact .inl e
      · have h1 := k3.size
        have h2 := hw1.size
        exact .inr (by omega)
  clear hsum hbs hI h hx hb hbx hy hl hle hbl hB hm hr hbn hls hZ
  obtain ⟨i0, hi0, hz1, hz2, hz0⟩ := info23e
  generalize hll : ss[ls.length].length = xl at *
  clear hll hj
  generalize ls.length = n at *
  have hxn : n + 1 ≤ maxLen := by have := HN.out; unfold maxLen; omega
  have hxb : (n + 1) * 24 ≤ 140737488355328 := by have := HN.out; omega
  generalize ss.length = m at *
  subst hsv
  go_enter Tryd.func14, Tryd.ntmps14
  go_wp2_with fail
  refine (HL.out w (Below.refl _ _)).mono ?_
  rintro e w1 ⟨rfl, hw⟩
  obtain rfl : w = w1 := hw.symm
  go_wp2_with fail
  go_region_law ((first | (refine step_call1 rfl 16 cf16 (.tmp 21) #[32] rfl _ rfl ((HL.out _ (below_drewN 1 w _)).mono ?_); rintro e w9 ⟨rfl, hw9⟩; refine ⟨_, rfl, ?_⟩; subst hw9) | (refine step_call3 rfl 26 cf26 (.tmp 16) (.tmp 24) (.tmp 25) #[32, 23, 23] rfl _ _ _ rfl rfl rfl ((HAD.out _ (below_drewN 1 w _)).mono ?_); rintro e w1 ⟨rfl, sv', k1, k2, k3, k4, k5⟩; refine ⟨_, rfl, ?_⟩)))
  all_goals
    obtain ⟨zs, ⟨f1, f2, HCL⟩, HF0⟩ := HX.out w1 sv' k1 k2 k3 k4 k5
    have HCC : Hid (Calls Tryd.prog 28 #[.slice bp bn bc] w1.drew fun e w' => ∃ u, e = .returned u ∧ w'.ownsRow w1.drew.heap.size 5 1 u bn (ints .u8 b) ∧ Below w1.drew.heap.size w1.drew w') := HCL
    have HF1 : Hid (∀ w2 u, w2.ownsRow w1.drew.heap.size 5 1 u bn (ints .u8 b) → Below w1.drew.heap.size w1.drew w2 → (w2.cell? ⟨c, 1, none⟩ = some (.slice lq n lcap) ∧ w2.frozen? ⟨c, 1, none⟩ = false ∧ c < w2.heap.size ∧ w2.ownsRow B 23 1 (.slice lq n lcap) n zs ∧ B ≤ w2.heap.size) ∧
        ∀ g' cap w3, w3.ownsRow B 23 1 (.slice (some ⟨g', 0, none⟩) (n + 1) cap) (n + 1) (zs ++ [u]) → (w2.alloc (.cells #[u] 23)).grownBy w3 (Value.slice lq n lcap).ownBlock → ((Value.slice lq n lcap).ownBlock = some g' ∨ g' = w2.heap.size + 1) →
          ∃ lv' sv', ChIs B Z (w3.setCell ⟨c, 1, none⟩ (.slice (some ⟨g', 0, none⟩) (n + 1) cap)) c p lv' sv' (ls ++ [b]) (ss ++ [r]) ∧ I (w3.setCell ⟨c, 1, none⟩ (.slice (some ⟨g', 0, none⟩) (n + 1) cap)) ∧ Only (bs ++ fp c lv (.slice (some ⟨g, 0, none⟩) m cc)) w (w3.setCell ⟨c, 1, none⟩ (.slice (some ⟨g', 0, none⟩) (n + 1) cap)) ∧ Mv w.heap.size (.slice (some ⟨g, 0, none⟩) m cc) sv' ∧ Mv w.heap.size lv lv') := HF0
    have HQ : Hid (∀ (u : Value) (w2 : World), w2.ownsRow w1.drew.heap.size 5 1 u bn (ints .u8 b) → ∃ uq uc, u = Value.slice uq bn uc) := fun u w2 ho => own_slice ho
    clear HCL HF0 HX HAD HL k1 k2 k3 k4 k5 c2 hc
    go_wp2_with fail
    go_region_law ((first | (refine step_call1 rfl 28 cf28 (.tmp 32) #[23] rfl _ rfl (HCC.out.mono ?_); rintro e w2 ⟨u, rfl, ho, hw2⟩; refine ⟨_, rfl, ?_⟩; obtain ⟨uq, uc, rfl⟩ := HQ.out u w2 ho; obtain ⟨⟨e1, e2, e3, e4, e5⟩, HF⟩ := HF1.out w2 _ ho hw2) | (refine step_append_lies _ (by rfl) _ _ _ (by rfl) B 23 i0 _ 1 24 Tryd.underlying22 hi0 hz0 hz1 hz2 rfl (by omega) (.slice lq n lcap) n zs (by rfl) (e4.alloc _) ⟨w2.heap.size, 0, none⟩ 1 1 [.slice uq bn uc] (by rfl) (by rfl) (World.news_of_block (cs := #[.slice uq bn uc]) (t := 23) (fr := (0, 0)) (heap_alloc_new w2 _)) (by simp [Value.oneCell']) (by omega) hxn hxb (by simp; omega) (w2.heap.size + 1) (by simp) ?_; intro gg cap w3 hown2 hgrow hat hlt; have hc2 : w3.cell? ⟨c, 1, none⟩ = some (.slice lq n lcap) := (hgrow.cell_far _ (by simp; omega) (Ne.symm f2)).trans (((below_alloc' w2 _).cell (p := ⟨c, 1, none⟩) e3).trans e1); have hf2 : w3.frozen? ⟨c, 1, none⟩ = false := (hgrow.frozen_far _ (by simp; omega) (Ne.symm f2)).trans ((frozen?_alloc_cells w2 _ _ _).trans e2))))
    all_goals
      have HZ : Hid (∃ lv' sv', ChIs B Z (w3.setCell ⟨c, 1, none⟩ (.slice (some ⟨gg, 0, none⟩) (n + 1) cap)) c p lv' sv' (ls ++ [b]) (ss ++ [r]) ∧ I (w3.setCell ⟨c, 1, none⟩ (.slice (some ⟨gg, 0, none⟩) (n + 1) cap)) ∧ Only (bs ++ fp c lv (.slice (some ⟨g, 0, none⟩) m cc)) w (w3.setCell ⟨c, 1, none⟩ (.slice (some ⟨gg, 0, none⟩) (n + 1) cap)) ∧ Mv w.heap.size (.slice (some ⟨g, 0, none⟩) m cc) sv' ∧ Mv w.heap.size lv lv') := HF _ _ _ hown2 hgrow hat
      clear HF hown2 hgrow hat
      go_wp2_with fail
      go_ret
      exact ⟨rfl, HZ.out⟩
end Go.Proofs.YtkiohhkmlpgdoaaDoor.S7.Zz
/- One chain, with blocks that no element of it lies in: New. -/
namespace Go.Proofs.YtkiohhkmlpgdoaaDoor.S7.Zz
open Go.RowKit
set_option maxHeartbeats 4000000 in
set_option maxRecDepth 10000 in
theorem New_any (B : Nat) (Z : List Nat) (p : Nat) (w : World) (n : Nat) (r : List Nat) (bs : List Nat) (I : World → Prop) (hB : B ≤ w.heap.size) (hn : 1 ≤ n ∧ n ≤ 1099511627776) (hr : ∀ x ∈ r, x < 256) (hZ : ∀ z ∈ Z, z < w.heap.size)
    (hsum : ∀ w1 g a1 a2, Src w1 a1 lock6 → Src w1 a2 (first n) → w1.cell? ⟨g, 0, none⟩ = some a1 → w1.cell? ⟨g, 1, none⟩ = some a2 → Below w.heap.size w w1 → Calls Tryd.prog 35 #[.pointer (some ⟨p, 0, none⟩), .slice (some ⟨g, 0, none⟩) 2 2] w1 fun e w' => ∃ u, e = .returned u ∧ w'.ownsRow w1.heap.size 5 1 u r.length (ints .u8 r) ∧ I w' ∧ Only bs w1 w')
    (hbs : ∀ y ∈ bs, B ≤ y ∧ y < w.heap.size ∧ ∀ o, w.heap[y]? = some o → tyOf o ∈ TS)
    (hI : ∀ w1 w2 c lv' sv' ls' ss', I w1 → ChIs B Z w1 c p lv' sv' ls' ss' → Only (fp c lv' sv') w1 w2 → I w2) :
    Calls Tryd.prog 12 #[.pointer (some ⟨p, 0, none⟩), .int .i64 (n : Int)] w fun e w' => ∃ c sv, e = .returned (.tuple #[.pointer (some ⟨c, 0, none⟩), .int .i64 0]) ∧ ChIs B Z w' c p (.slice none 0 0) sv [] [r] ∧ I w' ∧ Only bs w w' ∧ w.heap.size ≤ c ∧ (∀ g, sv.ownBlock = some g → w.heap.size ≤ g) := by
  have HP : Hid (Calls Tryd.prog 25 #[.slice (some ⟨w.heap.size, 0, none⟩) 1 1] (w.alloc (.cells #[.iface 3 (.int .i64 (n : Int))] 20)) fun e w' => ∃ v, e = .returned (.tuple #[v, .int .i64 0]) ∧ Src w' v (first n) ∧ Below w.heap.size w w') := by
    refine (put_one w n).mono ?_
    rintro e w' ⟨hb, ⟨h1, v, h2, h3⟩ | ⟨h1, _⟩⟩
    · refine ⟨v, h2, Src.own (base := w.heap.size) (first_small n) (n := 6) ?_, hb⟩
      have e1 : C8.Cd.enc [⟨false, (n : Int), []⟩] = first n := by simp [C8.Cd.enc, C8.Cd.one, first]
      rw [e1, first_length] at h3
      exact h3
    · exfalso
      apply h1
      simp [C8.Cd.err, C8.Cd.wrong]
      omega
  have HAD : Hid (∀ w2 c a1 a2, Below w.heap.size w w2 → w.heap.size ≤ c → w2.heap[c]? = some (.cells #[.pointer (some ⟨p, 0, none⟩), .slice none 0 0, .slice none 0 0] 73 (0, 0)) → Src w2 a1 lock6 → Src w2 a2 (first n) → Calls Tryd.prog 26 #[.pointer (some ⟨c, 0, none⟩), a1, a2] w2 fun e w' => e = .returned (.tuple #[]) ∧ ∃ sv, ChIs B Z w' c p (.slice none 0 0) sv [] [r] ∧ I w' ∧ Only bs w w' ∧ w.heap.size ≤ c ∧ (∀ g, sv.ownBlock = some g → w.heap.size ≤ g)) := by
    intro w2 c a1 a2 hb hc hbx h1 h2
    refine (addSum_any B Z c p (.slice none 0 0) (.slice none 0 0) [] [] w2 a1 a2 lock6 (first n) r bs I ⟨Nat.le_trans hB hc, hbx, ⟨[], RowB.nil _ _ _⟩, ⟨[], RowB.nil _ _ _⟩, fun b hb => by cases hb⟩ (Nat.le_trans hB hb.size) h1 h2 (by simp) (fun z hz => Nat.lt_of_lt_of_le (hZ z hz) hb.size) hr (fun w3 g k1 k2 k3 => hsum w3 g a1 a2 (h1.below k3) (h2.below k3) k1 k2 (hb.trans (k3.mono hb.size)))
      (fun y hy => ⟨(hbs y hy).1, fun e => ?_, Nat.lt_of_lt_of_le (hbs y hy).2.1 hb.size, fun o ho => (hbs y hy).2.2 o (by rw [← hb.block y (hbs y hy).2.1]; exact ho)⟩) (fun w3 w4 k1 k2 k3 => hI w3 w4 c _ _ _ _ k1 k2 k3)).mono ?_
    · have := (hbs y hy).2.1
      rcases mem_fp.1 e with e | e | e
      · omega
      · cases e
      · cases e
    · rintro e w3 ⟨rfl, sv, k1, k2, k3, g, k4, k5⟩
      refine ⟨rfl, sv, k1, k2, Only.old hb k3 (fun y hy => ?_), hc, fun g' hg' => ?_⟩
      · rcases mem_fp.1 hy with e | e | e
        · omega
        · cases e
        · cases e
      · rw [k4] at hg'
        cases hg'
        rcases k5 with e | e
        · cases e
        · exact Nat.le_trans hb.size e
  have q1 : ¬ (n : Int) < 1 := by omega
  clear hsum hbs hI hr hB hn hZ
  go_enter Tryd.func12, Tryd.ntmps12
  go_wp2_with fail
  refine HP.out.mono ?_
  rintro e w1 ⟨v, rfl, hv, hb⟩
  have HS : Hid (Src w1 v (first n)) := hv
  have HB : Hid (Below w.heap.size w w1) := hb
  obtain ⟨vp, vc, rfl, -⟩ := hv.slice
  rw [first_length] at HS ⊢
  clear hv hb HP
  have hcv := Lib.run_convert_bytes_const (P := Tryd.prog) (w1.alloc (.cells #[.pointer (some ⟨p, 0, none⟩), .slice none 0 0, .slice none 0 0] 73)) 23 5 #[.int .u8 108, .int .u8 111, .int .u8 99, .int .u8 107, .int .u8 101, .int .u8 116] 6 6 Tryd.underlying23 Tryd.underlying5
  have hsz : (w1.alloc (.cells #[.pointer (some ⟨p, 0, none⟩), .slice none 0 0, .slice none 0 0] 73)).heap.size = w1.heap.size + 1 := by simp
  rw [hsz] at hcv
  generalize hW3 : (w1.alloc (.cells #[.pointer (some ⟨p, 0, none⟩), .slice none 0 0, .slice none 0 0] 73)).alloc (.cells #[.int .u8 108, .int .u8 111, .int .u8 99, .int .u8 107, .int .u8 101, .int .u8 116] 5 (6, 7)) = w3 at hcv
  have hb3 : Below w1.heap.size w1 w3 := by
    rw [← hW3]
    exact (below_alloc' w1 _).trans ((below_alloc' _ _).mono (below_alloc' w1 _).size)
  have hc3 : w3.heap[w1.heap.size]? = some (.cells #[.pointer (some ⟨p, 0, none⟩), .slice none 0 0, .slice none 0 0] 73 (0, 0)) := by
    rw [← hW3, (below_alloc' _ _).block _ (by simp)]
    exact heap_alloc_new w1 _
  have hs3 : Src w3 (.slice (some ⟨w1.heap.size + 1, 0, none⟩) 6 6) lock6 := by
    have h0 : w3.heap[w1.heap.size + 1]? = some (.cells #[.int .u8 108, .int .u8 111, .int .u8 99, .int .u8 107, .int .u8 101, .int .u8 116] 5 (6, 7)) := by
      rw [← hW3, ← hsz]
      exact heap_alloc_new _ _
    exact Src.row (by decide) (by decide) (rangeAt_of_row (t := 5) (fr := (6, 7)) h0) rfl
  have HA3 : Hid (Calls Tryd.prog 26 #[.pointer (some ⟨w1.heap.size, 0, none⟩), .slice (some ⟨w1.heap.size + 1, 0, none⟩) 6 6, .slice vp 6 vc] w3 fun e w' => e = .returned (.tuple #[]) ∧ ∃ sv, ChIs B Z w' w1.heap.size p (.slice none 0 0) sv [] [r] ∧ I w' ∧ Only bs w w' ∧ w.heap.size ≤ w1.heap.size ∧ (∀ g, sv.ownBlock = some g → w.heap.size ≤ g)) := HAD.out w3 w1.heap.size _ _ (HB.out.trans (hb3.mono HB.out.size)) HB.out.size hc3 hs3 (HS.out.below hb3)
  clear HAD HS hs3 hc3 hb3 hW3 hsz
  go_wp2_with fail
  refine HA3.out.mono ?_
  rintro e w4 ⟨rfl, sv, k1, k2, k3, k4, k5⟩
  have HZ : Hid (ChIs B Z w4 w1.heap.size p (.slice none 0 0) sv [] [r] ∧ I w4 ∧ Only bs w w4 ∧ w.heap.size ≤ w1.heap.size ∧ (∀ g, sv.ownBlock = some g → w.heap.size ≤ g)) := ⟨k1, k2, k3, k4, k5⟩
  clear k1 k2 k3 k4 k5 HA3
  go_wp2_with fail
  go_ret2
  exact ⟨_, _, rfl, HZ.out⟩
end Go.Proofs.YtkiohhkmlpgdoaaDoor.S7.Zz
/- One chain, with blocks that no element of it lies in: Sg. -/
namespace Go.Proofs.YtkiohhkmlpgdoaaDoor.S7.Zz
open Go.RowKit
section
variable {B : Nat} {Z : List Nat} {w w' : World} {p q m x : Nat} {L : List Su.Thing} {c p' : Nat} {lv sv : Value} {ls ss : List (List Nat)}
theorem su_off (h : SuIs w p q m x L) (hc : ChIs B Z w c p' lv sv ls ss) : p ∉ fp c lv sv ∧ q ∉ fp c lv sv ∧ m ∉ fp c lv sv ∧ x ∉ fp c lv sv := by
  obtain ⟨xs, hx⟩ := hc.links
  obtain ⟨ys, hy⟩ := hc.sums
  obtain ⟨es, k, hm, _⟩ := h.nums
  obtain ⟨es', k', hm', _⟩ := h.boxes
  have key : ∀ (y : Nat) (o : Obj), w.heap[y]? = some o → (∀ cs fr, o ≠ .cells cs 73 fr) → (∀ cs fr, o ≠ .cells cs 23 fr) → y ∉ fp c lv sv := by
    intro y o ho h1 h2 e
    rcases mem_fp.1 e with rfl | e | e
    · rw [hc.box] at ho
      exact h1 _ _ (Option.some.inj ho).symm
    · obtain ⟨_, cs, h3⟩ := hx.ty y e
      rw [h3] at ho
      exact h2 _ _ (Option.some.inj ho).symm
    · obtain ⟨_, cs, h3⟩ := hy.ty y e
      rw [h3] at ho
      exact h2 _ _ (Option.some.inj ho).symm
  exact ⟨key p _ h.box (fun cs fr e => by cases e) (fun cs fr e => by cases e), key q _ h.signs (fun cs fr e => by cases e) (fun cs fr e => by cases e), key m _ hm (fun cs fr e => by cases e) (fun cs fr e => by cases e), key x _ hm' (fun cs fr e => by cases e) (fun cs fr e => by cases e)⟩
theorem su_ch (h : SuIs w p q m x L) (hc : ChIs B Z w c p' lv sv ls ss) (ho : Only (fp c lv sv) w w') : SuIs w' p q m x L := h.only ho (su_off h hc)
end
theorem New_s (B : Nat) (Z : List Nat) (p q m x : Nat) (L : List Su.Thing) (w : World) (n : Nat) (h : Sw B w p q m x L) (hL : L.length < 1000000) (hZ : ∀ z ∈ Z, z < w.heap.size) (hB : B ≤ w.heap.size) (hn : 1 ≤ n ∧ n ≤ 1099511627776) :
    Calls Tryd.prog 12 #[.pointer (some ⟨p, 0, none⟩), .int .i64 (n : Int)] w fun e w' => ∃ c sv, e = .returned (.tuple #[.pointer (some ⟨c, 0, none⟩), .int .i64 0]) ∧ ChIs B Z w' c p (.slice none 0 0) sv [] [sg L (lock6 ++ first n)] ∧ Sw B w' p q m x (ad L (lock6 ++ first n)) ∧ Only [p, m] w w' ∧ w.heap.size ≤ c ∧ (∀ g, sv.ownBlock = some g → w.heap.size ≤ g) := by
  refine (New_any B Z p w n (sg L (lock6 ++ first n)) [p, m] (fun w' => SuIs w' p q m x (ad L (lock6 ++ first n))) hB hn (sg_small _ _) hZ (fun w1 g a1 a2 h1 h2 h3 h4 h5 => ?_) (fun y hy => ⟨?_, h.su.ty y hy⟩) (fun w1 w2 c lv' sv' ls' ss' h1 h2 h3 => su_ch h1 h2 h3)).mono ?_
  · rw [sg_length]
    refine Sum_two lock6 (first n) g 0 2 a1 a2 p q m x L w1 (h.su.below h5) h3 h4 h1 h2 (by omega) (by decide) (by rw [first_length]; omega) hL
  · rcases List.mem_cons.1 hy with rfl | hy
    · exact h.lo.1
    · rw [List.mem_singleton.1 hy]; exact h.lo.2.2.1
  · rintro e w' ⟨c, sv, rfl, h1, h2, h3⟩
    exact ⟨c, sv, rfl, h1, ⟨h2, h.lo⟩, h3⟩
theorem Append_s (B : Nat) (Z : List Nat) (c p q m x : Nat) (L : List Su.Thing) (lv sv : Value) (ls ss : List (List Nat)) (w : World) (bp : Option Addr) (bn bc : Nat) (b l : List Nat) (hs : Sw B w p q m x L) (hL : L.length < 1000000) (h : ChIs B Z w c p lv sv ls ss) (hB : B ≤ w.heap.size) (hb : By B w (.slice bp bn bc) b) (hbn : 1 ≤ bn ∧ bn ≤ 4096) (hls : ls.length < 64) (hl : ss[ls.length]? = some l) (hll : l.length ≤ 50000) (hm : ss.length ≤ 1000) (hZ : ∀ z ∈ Z, z < w.heap.size) :
    Calls Tryd.prog 14 #[.pointer (some ⟨c, 0, none⟩), .slice bp bn bc] w fun e w' => e = .returned (.int .i64 0) ∧ ∃ lv' sv', ChIs B Z w' c p lv' sv' (ls ++ [b]) (ss ++ [sg L (l ++ b)]) ∧ Sw B w' p q m x (ad L (l ++ b)) ∧ Only ([p, m] ++ fp c lv sv) w w' ∧ Mv w.heap.size sv sv' ∧ Mv w.heap.size lv lv' := by
  have hbl : b.length ≤ 4096 := by
    obtain ⟨p', c', e, _⟩ := hb.src.slice
    simp only [Value.slice.injEq] at e
    have := e.2.1
    omega
  refine (Append_any B Z c p lv sv ls ss w bp bn bc b l (sg L (l ++ b)) [p, m] (fun w' => SuIs w' p q m x (ad L (l ++ b))) h hB hb hbn hls hl hm hZ (sg_small _ _) (fun w1 g a1 a2 h1 h2 h3 h4 h5 => ?_) (fun y hy => ⟨?_, ?_, hs.su.ty y hy⟩) (fun w1 w2 lv' sv' ls' ss' h1 h2 h3 => su_ch h1 h2 h3)).mono ?_
  · rw [sg_length]
    exact Sum_two l b g 0 2 a1 a2 p q m x L w1 (hs.su.below h5) h3 h4 h1 h2 (by omega) hll (by omega) hL
  · rcases List.mem_cons.1 hy with rfl | hy
    · exact hs.lo.1
    · rw [List.mem_singleton.1 hy]; exact hs.lo.2.2.1
  · have := su_off hs.su h
    rcases List.mem_cons.1 hy with rfl | hy
    · exact this.1
    · rw [List.mem_singleton.1 hy]; exact this.2.2.1
  · rintro e w' ⟨rfl, lv', sv', h1, h2, h3⟩
    exact ⟨rfl, lv', sv', h1, ⟨h2, hs.lo⟩, h3⟩
end Go.Proofs.YtkiohhkmlpgdoaaDoor.S7.Zz
