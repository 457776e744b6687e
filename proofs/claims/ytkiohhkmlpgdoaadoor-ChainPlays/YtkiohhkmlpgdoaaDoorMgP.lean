/- The document's chain in memory; its New and Check: contracts. -/
import Derived.Test.YtkiohhkmlpgdoaaDoorS7SigK
import Derived.Test.YtkiohhkmlpgdoaaDoorC8RNum
import Derived.BigRegion
namespace Go.Proofs.YtkiohhkmlpgdoaaDoor.S7
open Go.RowKit
/-- The document's chain: its own block, its rows of links and of sums. -/
structure DcC (B : Nat) (w : World) (c : Nat) (lv sv : Value) (ls ss : List (List Nat)) : Prop where
  low : B ≤ c
  box : w.heap[c]? = some (.cells #[lv, sv] 42 (0, 0))
  links : ∃ xs, RowB B w lv xs ls
  sums : ∃ xs, RowB B w sv xs ss
  ap : Ap lv sv
section
variable {B : Nat} {w w' : World} {c : Nat} {lv sv : Value} {ls ss : List (List Nat)} {ts : List (Option TypeId)}
theorem DcC.cells (h : DcC B w c lv sv ls ss) : w.cell? ⟨c, 0, none⟩ = some lv ∧ w.cell? ⟨c, 1, none⟩ = some sv ∧ ∀ i, w.frozen? ⟨c, i, none⟩ = false :=
  ⟨by rw [cell_of_row _ _ _ _ _ _ h.box]; rfl, by rw [cell_of_row _ _ _ _ _ _ h.box]; rfl, fun i => frozen_of_row _ _ _ _ _ h.box⟩
theorem DcC.lt (h : DcC B w c lv sv ls ss) : c < w.heap.size := (Array.getElem?_eq_some_iff.1 h.box).1
theorem DcC.below (h : DcC B w c lv sv ls ss) (hb : Below w.heap.size w w') : DcC B w' c lv sv ls ss := by
  obtain ⟨xs, hx⟩ := h.links
  obtain ⟨ys, hy⟩ := h.sums
  exact ⟨h.low, (hb.block c h.lt).trans h.box, ⟨xs, hx.below hb⟩, ⟨ys, hy.below hb⟩, h.ap⟩
theorem DcC.keep (h : DcC B w c lv sv ls ss) (hk : Kx ts B w w') (h5 : some 5 ∉ ts) (hc : w'.heap[c]? = w.heap[c]?) (hl : ∀ b, lv.ownBlock = some b → w'.heap[b]? = w.heap[b]?) (hs : ∀ b, sv.ownBlock = some b → w'.heap[b]? = w.heap[b]?) : DcC B w' c lv sv ls ss := by
  obtain ⟨xs, hx⟩ := h.links
  obtain ⟨ys, hy⟩ := h.sums
  exact ⟨h.low, hc.trans h.box, ⟨xs, hx.keep hk h5 hl⟩, ⟨ys, hy.keep hk h5 hs⟩, h.ap⟩
end
set_option maxHeartbeats 1000000 in
theorem rCheck_low {B : Nat} {w : World} {c : Nat} {lv sv : Value} {ls ss : List (List Nat)} (_h : DcC B w c lv sv ls ss) (z : Int) (hz : z < 0) (u : Value) :
    Calls Tryd.prog 19 #[.pointer (some ⟨c, 0, none⟩), .int .i64 z, u] w fun e w' => e = .returned (.int .i64 12) ∧ w' = w := by
  go_enter Tryd.func19, Tryd.ntmps19
  go_wp2_with fail
  go_ret
  exact ⟨rfl, rfl⟩
set_option maxHeartbeats 1000000 in
theorem rCheck_out {B : Nat} {w : World} {c : Nat} {lv sv : Value} {ls ss : List (List Nat)} (h : DcC B w c lv sv ls ss) (z : Int) (hz : (ss.length : Int) ≤ z) (u : Value) :
    Calls Tryd.prog 19 #[.pointer (some ⟨c, 0, none⟩), .int .i64 z, u] w fun e w' => e = .returned (.int .i64 14) ∧ w' = w := by
  obtain ⟨ys, hy⟩ := h.sums
  obtain ⟨q, cc, hsv⟩ := hy.slice
  obtain ⟨d0, d1, -⟩ := h.cells
  rw [hsv] at d1
  have z0 : ¬ z < 0 := by omega
  clear h hy hsv d0
  generalize ss.length = m at *
  go_enter Tryd.func19, Tryd.ntmps19
  go_wp2_with fail
  go_ret
  exact ⟨rfl, rfl⟩
set_option maxHeartbeats 4000000 in
theorem rCheck_at {B : Nat} {w : World} {c : Nat} {lv sv : Value} {ls ss : List (List Nat)} (h : DcC B w c lv sv ls ss) (j : Nat) (l : List Nat) (hl : ss[j]? = some l) (u : Value) (k : List Nat) (hu : Src w u k) (r : Int) (hr : (if l = k then 0 else 24) = r) :
    Calls Tryd.prog 19 #[.pointer (some ⟨c, 0, none⟩), .int .i64 (j : Int), u] w fun e w' => e = .returned (.int .i64 r) ∧ Below w.heap.size w w' := by
  obtain ⟨ys, hy⟩ := h.sums
  have hj := get_lt hl
  obtain ⟨g, cc, x, hsv, -, hc, hbx⟩ := hy.at hj
  obtain rfl : ss[j] = l := by rw [List.getElem?_eq_getElem hj] at hl; exact Option.some.inj hl
  obtain ⟨d0, d1, -⟩ := h.cells
  rw [hsv] at d1
  have hbd : Below w.heap.size w w.drew := below_drewN 1 w _
  have e1 := conv_src (hbx.src.below hbd)
  have e2 := conv_src (hu.below hbd)
  obtain ⟨uq, uc, rfl, -⟩ := hu.slice
  obtain ⟨xq, xc, rfl, -⟩ := hbx.src.slice
  have HQ : Hid (((strB ss[j]).toList == (strB k).toList) = decide (ss[j] = k)) := strB_beqL hbx.src.small hu.small
  have HR : Hid ((if ss[j] = k then (0 : Int) else 24) = r) := hr
  have q0 : ¬ (j : Int) < 0 := by omega
  have q1 : ¬ (ss.length : Int) ≤ (j : Int) := by omega
  have q2 : (0 : Int) ≤ (j : Int) := by omega
  have q3 : (j : Int) < (ss.length : Int) := by omega
  clear h hy hsv d0 hbx hu hl hr
  have HBD : Hid (Below w.heap.size w w.drew) := hbd
  obtain ⟨l, hsj⟩ : ∃ l, ss[j] = l := ⟨_, rfl⟩
  rw [hsj] at hc e1 HQ HR
  clear hsj hj
  generalize ss.length = m at *
  generalize l.length = ll at *
  generalize k.length = kl at *
  by_cases hlk : l = k
  · have hq : ((strB l).toList == (strB k).toList) = true := by rw [HQ.out, decide_eq_true hlk]
    obtain rfl : 0 = r := by rw [← HR.out, if_pos hlk]
    clear hlk HQ HR hbd
    generalize strB l = sl at *
    generalize strB k = sk at *
    go_enter Tryd.func19, Tryd.ntmps19
    go_wp2_with fail
    go_region
    all_goals
      go_wp2_with fail
      go_ret
      exact ⟨rfl, HBD.out⟩
  · have hq : ((strB l).toList == (strB k).toList) = false := by rw [HQ.out, decide_eq_false hlk]
    obtain rfl : 24 = r := by rw [← HR.out, if_neg hlk]
    clear hlk HQ HR hbd
    generalize strB l = sl at *
    generalize strB k = sk at *
    go_enter Tryd.func19, Tryd.ntmps19
    go_wp2_with fail
    go_region
    all_goals
      go_wp2_with fail
      go_ret
      exact ⟨rfl, HBD.out⟩
set_option maxHeartbeats 4000000 in
theorem rNew_any (B d n : Nat) (L : List Su.Thing) (w : World) (h : Doc B w d L) (hB : B ≤ w.heap.size) (hn : n ≤ 1099511627776) (hL : L.length < 1000000) :
    Calls Tryd.prog 13 #[.pointer (some ⟨d, 0, none⟩), .int .i64 (n : Int)] w fun e w' => ∃ c sv, e = .returned (.pointer (some ⟨c, 0, none⟩)) ∧ DcC B w' c (.slice none 0 0) sv [] [sg L (lock6 ++ first n)] ∧ Doc B w' d (ad L (lock6 ++ first n)) ∧ Kx [some 31, some 87] B w w' ∧ w.heap.size ≤ c ∧ (∀ g, sv.ownBlock = some g → w.heap.size ≤ g) := by
  obtain ⟨w1, HW1⟩ : ∃ w1, Hid (w.alloc (.cells #[.int .u8 108, .int .u8 111, .int .u8 99, .int .u8 107, .int .u8 101, .int .u8 116] 5) = w1) := ⟨_, rfl⟩
  have HD : Hid (Doc B w d L ∧ B ≤ w.heap.size ∧ n ≤ 1099511627776 ∧ L.length < 1000000) := ⟨h, hB, hn, hL⟩
  have G1 : Hid (Below w.heap.size w w1 ∧ w1.ownsRow w.heap.size 5 1 (.slice (some ⟨w.heap.size, 0, none⟩) 6 6) 6 (ints .u8 lock6)) := by
    rw [← HW1.out]
    exact ⟨below_alloc' w _, rfl, .inr ⟨w.heap.size, 6, _, rfl, Nat.le_refl _, heap_alloc_new w _, Nat.le_refl _, by unfold maxLen; decide, rfl, rfl⟩⟩
  clear h hB hn hL
  go_enter Tryd.func13, Tryd.ntmps13
  go_wp2_with (first | with_reducible (refine stop_builtin .append ?_))
  rw [HW1.out]
  refine (C8.RefNum_any n w1 HD.out.2.2.1).mono ?_
  rintro e w2 ⟨v2, rfl, ho2, hb2⟩
  obtain ⟨q2, c2, rfl⟩ := own_slice ho2
  have G2 : Hid (Below w.heap.size w w2 ∧ w2.ownsRow w.heap.size 5 1 (.slice (some ⟨w.heap.size, 0, none⟩) 6 6) 6 (ints .u8 lock6) ∧ Src w2 (.slice q2 6 c2) (first n)) := ⟨G1.out.1.trans (hb2.mono G1.out.1.size), own_only G1.out.2 (Only.of_below hb2 []) (fun _ _ => by simp), Src.own (first_small n) ho2⟩
  clear ho2 hb2 G1 HW1
  go_wp2_with (first | with_reducible (refine stop_builtin .append ?_))
  refine Stop.go ?_
  refine law_append_src w.heap.size _ 6 lock6 _ (first n) rfl rfl G2.out.2.1 G2.out.2.2 (by rw [first_length]; omega) G2.out.1.size ?_
  intro v3 w3 ho3 hg3
  have hs3 : ∀ x ∈ lock6 ++ first n, x < 256 := fun x hx => by
    rcases List.mem_append.1 hx with e | e
    · exact (by decide : ∀ x ∈ lock6, x < 256) x e
    · exact first_small n x e
  have hb3 : Below w.heap.size w w3 := G2.out.1.trans (below_append G2.out.2.1 hg3 G2.out.1.size)
  have G3 : Hid (Below w.heap.size w w3 ∧ By B w3 v3 (lock6 ++ first n)) := ⟨hb3, By.own hs3 ho3⟩
  have HD3 : Hid (Doc B w3 d L) := HD.out.1.below hb3
  obtain ⟨q3, c3, rfl⟩ := own_slice ho3
  rw [first_length] at G3 ⊢
  clear ho3 hg3 hs3 hb3 G2
  go_wp2_with fail
  refine (rSum_any _ (lock6 ++ first n) B d L w3 HD3.out G3.out.2 (Nat.le_trans HD.out.2.1 G3.out.1.size) HD.out.2.2.2).mono ?_
  rintro e w4 ⟨v4, rfl, ho4, hd4, hk4⟩
  obtain ⟨q4, c4, rfl⟩ := own_slice ho4
  have hb5 := below_alloc' w4 (.cells #[.slice q4 32 c4] 23)
  have hsz : (w4.alloc (.cells #[.slice q4 32 c4] 23)).heap.size = w4.heap.size + 1 := by simp
  have hb6 := below_alloc' (w4.alloc (.cells #[.slice q4 32 c4] 23)) (.cells #[.slice none 0 0, .slice (some ⟨w4.heap.size, 0, none⟩) 1 1] 42)
  have h6 := heap_alloc_new (w4.alloc (.cells #[.slice q4 32 c4] 23)) (.cells #[.slice none 0 0, .slice (some ⟨w4.heap.size, 0, none⟩) 1 1] 42)
  have h5 := (hb6.block w4.heap.size (by rw [hsz]; omega)).trans (heap_alloc_new w4 (.cells #[.slice q4 32 c4] 23))
  rw [hsz] at h6
  have hbb : Below w4.heap.size w4 ((w4.alloc (.cells #[.slice q4 32 c4] 23)).alloc (.cells #[.slice none 0 0, .slice (some ⟨w4.heap.size, 0, none⟩) 1 1] 42)) := hb5.trans (hb6.mono hb5.size)
  have hk3 : Kx [some 31, some 87] B w w3 := Kx.of_below G3.out.1 HD.out.2.1
  have hk := hk3.trans hk4
  have hsw : w.heap.size ≤ w4.heap.size := hk.low.size
  have hB4 : B ≤ w4.heap.size := Nat.le_trans HD.out.2.1 hsw
  have HF : Hid (DcC B ((w4.alloc (.cells #[.slice q4 32 c4] 23)).alloc (.cells #[.slice none 0 0, .slice (some ⟨w4.heap.size, 0, none⟩) 1 1] 42)) (w4.heap.size + 1) (.slice none 0 0) (.slice (some ⟨w4.heap.size, 0, none⟩) 1 1) [] [sg L (lock6 ++ first n)] ∧ Doc B ((w4.alloc (.cells #[.slice q4 32 c4] 23)).alloc (.cells #[.slice none 0 0, .slice (some ⟨w4.heap.size, 0, none⟩) 1 1] 42)) d (ad L (lock6 ++ first n)) ∧ Kx [some 31, some 87] B w ((w4.alloc (.cells #[.slice q4 32 c4] 23)).alloc (.cells #[.slice none 0 0, .slice (some ⟨w4.heap.size, 0, none⟩) 1 1] 42)) ∧ w.heap.size ≤ w4.heap.size + 1 ∧ (∀ g, (Value.slice (some ⟨w4.heap.size, 0, none⟩) 1 1).ownBlock = some g → w.heap.size ≤ g)) := by
    refine ⟨⟨by omega, h6, ⟨[], RowB.nil _ _⟩, ⟨[.slice q4 32 c4], ⟨rfl, .inr ⟨w4.heap.size, 1, _, rfl, hB4, h5, Nat.le_refl _, by unfold maxLen; decide, rfl, rfl⟩⟩, rfl, fun i x l h1 h2 => ?_⟩, fun b hb => by cases hb⟩, hd4.below hbb, hk.trans (Kx.of_below hbb hB4), by omega, fun g hg => by cases hg; exact hsw⟩
    have hi : i = 0 := by have := get_lt h1; simp at this; omega
    subst hi
    simp at h1 h2
    subst h1 h2
    have hby : By B w4 (.slice q4 32 c4) (sg L (lock6 ++ first n)) := By.own (sg_small _ _) ho4
    exact hby.below hbb
  clear ho4 hd4 hk4 hb5 hb6 h5 h6 hbb hk hk3 hsw hB4 hsz G3 HD3 HD
  go_wp2_with fail
  go_ret
  exact ⟨_, _, rfl, HF.out⟩
end Go.Proofs.YtkiohhkmlpgdoaaDoor.S7
/- The document's Append, where it is refused: contracts. -/
namespace Go.Proofs.YtkiohhkmlpgdoaaDoor.S7
open Go.RowKit
set_option maxHeartbeats 1000000 in
theorem rAppend_size (w : World) (c d : Option Addr) (bp : Option Addr) (n bc : Nat) (hn : n < 1 ∨ 4096 < n) :
    Calls Tryd.prog 15 #[.pointer c, .pointer d, .slice bp n bc] w fun e w' => e = .returned (.int .i64 11) ∧ w' = w := by
  by_cases h1 : n < 1
  · have q1 : (n : Int) < 1 := by omega
    clear hn
    go_enter Tryd.func15, Tryd.ntmps15
    go_wp2_with fail
    go_ret
    exact ⟨rfl, rfl⟩
  · have q1 : ¬ (n : Int) < 1 := by omega
    have q2 : (4096 : Int) < (n : Int) := by omega
    clear hn
    go_enter Tryd.func15, Tryd.ntmps15
    go_wp2_with fail
    go_ret
    exact ⟨rfl, rfl⟩
set_option maxHeartbeats 1000000 in
theorem rAppend_full (B c : Nat) (d : Option Addr) (lv sv : Value) (ls ss : List (List Nat)) (w : World) (bp : Option Addr) (n bc : Nat) (h : DcC B w c lv sv ls ss) (hn : 1 ≤ n ∧ n ≤ 4096) (hl : 64 ≤ ls.length) :
    Calls Tryd.prog 15 #[.pointer (some ⟨c, 0, none⟩), .pointer d, .slice bp n bc] w fun e w' => e = .returned (.int .i64 33) ∧ w' = w := by
  obtain ⟨xs, hx⟩ := h.links
  obtain ⟨q, cc, hlv⟩ := hx.slice
  obtain ⟨d0, d1, -⟩ := h.cells
  rw [hlv] at d0
  have q1 : ¬ (n : Int) < 1 := by omega
  have q2 : ¬ (4096 : Int) < (n : Int) := by omega
  have q3 : (64 : Int) ≤ (ls.length : Int) := by omega
  clear h hx hlv hn hl d1
  generalize ls.length = m at *
  go_enter Tryd.func15, Tryd.ntmps15
  go_wp2_with fail
  go_ret
  exact ⟨rfl, rfl⟩
end Go.Proofs.YtkiohhkmlpgdoaaDoor.S7
/- The document's chain: its rows grow by one. -/
namespace Go.Proofs.YtkiohhkmlpgdoaaDoor.S7
open Go.RowKit
/-- The types whose blocks the document's chain may turn. -/
abbrev TD : List (Option TypeId) := [some 23, some 42]
theorem DcC.pushL {B : Nat} {w1 w2 : World} {c : Nat} {sv : Value} {q : Option Addr} {n cap0 : Nat} {ls ss : List (List Nat)} {xs : List Value} {r : List Nat} {u : Value} {g cap : Nat}
    (h1 : DcC B w1 c (.slice q n cap0) sv ls ss) (hx1 : RowB B w1 (.slice q n cap0) xs ls) (hB1 : B ≤ w1.heap.size) (hn : ls.length = n)
    (hu : By B w1 u r) (hown : w2.ownsRow B 23 1 (.slice (some ⟨g, 0, none⟩) (n + 1) cap) (n + 1) (xs ++ [u])) (hg : (w1.alloc (.cells #[u] 23)).grownBy w2 (Value.slice q n cap0).ownBlock) (hat : (Value.slice q n cap0).ownBlock = some g ∨ g = w1.heap.size + 1) :
    DcC B (w2.setCell ⟨c, 0, none⟩ (.slice (some ⟨g, 0, none⟩) (n + 1) cap)) c (.slice (some ⟨g, 0, none⟩) (n + 1) cap) sv (ls ++ [r]) ss ∧ Only (c :: (Value.slice q n cap0).ownBlock.toList) w1 (w2.setCell ⟨c, 0, none⟩ (.slice (some ⟨g, 0, none⟩) (n + 1) cap)) := by
  have hba := below_alloc' w1 (.cells #[u] 23)
  have h2 := h1.below hba
  have ho2 : Only (c :: (Value.slice q n cap0).ownBlock.toList) (w1.alloc (.cells #[u] 23)) w2 := Only.of_grown hg (fun y hy => List.mem_cons_of_mem _ (by simpa using hy))
  have ho3 : Only (c :: (Value.slice q n cap0).ownBlock.toList) w2 (w2.setCell ⟨c, 0, none⟩ (.slice (some ⟨g, 0, none⟩) (n + 1) cap)) := Only.setCell _ _ _ (by simp)
  have ho : Only (c :: (Value.slice q n cap0).ownBlock.toList) w1 (w2.setCell ⟨c, 0, none⟩ (.slice (some ⟨g, 0, none⟩) (n + 1) cap)) := ((Only.of_below hba _).trans ho2).trans ho3
  have hk : Kx TD B w1 (w2.setCell ⟨c, 0, none⟩ (.slice (some ⟨g, 0, none⟩) (n + 1) cap)) := Kx.of_only ho hB1 (fun y hy => by
    rcases List.mem_cons.1 hy with rfl | e
    · exact ⟨h1.low, fun o ho => by rw [h1.box] at ho; cases ho; simp [TD, tyOf]⟩
    · obtain ⟨a, cs, b⟩ := hx1.ty y (by simpa using e)
      exact ⟨a, fun o ho => by rw [b] at ho; cases ho; simp [TD, tyOf]⟩)
  have hcs : ∀ b, (Value.slice q n cap0).ownBlock = some b → b ≠ c := fun b hb e => by
    obtain ⟨_, cs, h3⟩ := hx1.ty b hb
    rw [e, h1.box] at h3
    cases h3
  have hc2 : w2.heap[c]? = some (.cells #[(.slice q n cap0), sv] 42 (0, 0)) := by
    rw [hg.block c (Nat.lt_of_lt_of_le h1.lt hba.size) (fun e => hcs c e.symm rfl)]
    exact h2.box
  have hgc : g ≠ c := by
    rcases hat with e | e
    · exact hcs g e
    · have := h1.lt; omega
  have hown3 : (w2.setCell ⟨c, 0, none⟩ (.slice (some ⟨g, 0, none⟩) (n + 1) cap)).ownsRow B 23 1 (.slice (some ⟨g, 0, none⟩) (n + 1) cap) (ls.length + 1) (xs ++ [u]) := by
    rw [hn]
    exact own_only hown (Only.setCell (bs := [c]) w2 ⟨c, 0, none⟩ _ (by simp)) (Off.at (ad := ⟨g, 0, none⟩) (by simpa using hgc))
  have hrow : ∃ xs, RowB B (w2.setCell ⟨c, 0, none⟩ (.slice (some ⟨g, 0, none⟩) (n + 1) cap)) (.slice (some ⟨g, 0, none⟩) (n + 1) cap) xs (ls ++ [r]) := ⟨_, hx1.push hown3 hk (by decide) (hu.kx hk (by decide))⟩
  have hrest : ∃ xs, RowB B (w2.setCell ⟨c, 0, none⟩ (.slice (some ⟨g, 0, none⟩) (n + 1) cap)) sv xs ss := by
    obtain ⟨ys, hy⟩ := h1.sums
    refine ⟨ys, hy.keep hk (by decide) (fun b hb => ?_)⟩
    have hbc : b ≠ c := fun e => by
      obtain ⟨_, cs, h3⟩ := hy.ty b hb
      rw [e, h1.box] at h3
      cases h3
    rw [Below.heap_setCell _ _ _ _ (fun e => hbc e), hg.block b (Nat.lt_of_lt_of_le (hy.lt b hb) hba.size) (fun e => h1.ap b e.symm hb)]
    exact hba.block b (hy.lt b hb)
  have hap : ∀ b, ((.slice (some ⟨g, 0, none⟩) (n + 1) cap) : Value).ownBlock = some b → sv.ownBlock ≠ some b := fun b hb e => by
    cases hb
    rcases hat with e2 | e2
    · exact h1.ap g e2 e
    · obtain ⟨ys, hy⟩ := h1.sums
      have := hy.lt g e
      omega
  exact ⟨⟨h1.low, heap_setCell_same w2 c 0 _ 42 _ hc2, hrow, hrest, hap⟩, ho⟩
theorem DcC.pushS {B : Nat} {w1 w2 : World} {c : Nat} {lv : Value} {q : Option Addr} {n cap0 : Nat} {ls ss : List (List Nat)} {xs : List Value} {r : List Nat} {u : Value} {g cap : Nat}
    (h1 : DcC B w1 c lv (.slice q n cap0) ls ss) (hx1 : RowB B w1 (.slice q n cap0) xs ss) (hB1 : B ≤ w1.heap.size) (hn : ss.length = n)
    (hu : By B w1 u r) (hown : w2.ownsRow B 23 1 (.slice (some ⟨g, 0, none⟩) (n + 1) cap) (n + 1) (xs ++ [u])) (hg : (w1.alloc (.cells #[u] 23)).grownBy w2 (Value.slice q n cap0).ownBlock) (hat : (Value.slice q n cap0).ownBlock = some g ∨ g = w1.heap.size + 1) :
    DcC B (w2.setCell ⟨c, 1, none⟩ (.slice (some ⟨g, 0, none⟩) (n + 1) cap)) c lv (.slice (some ⟨g, 0, none⟩) (n + 1) cap) ls (ss ++ [r]) ∧ Only (c :: (Value.slice q n cap0).ownBlock.toList) w1 (w2.setCell ⟨c, 1, none⟩ (.slice (some ⟨g, 0, none⟩) (n + 1) cap)) := by
  have hba := below_alloc' w1 (.cells #[u] 23)
  have h2 := h1.below hba
  have ho2 : Only (c :: (Value.slice q n cap0).ownBlock.toList) (w1.alloc (.cells #[u] 23)) w2 := Only.of_grown hg (fun y hy => List.mem_cons_of_mem _ (by simpa using hy))
  have ho3 : Only (c :: (Value.slice q n cap0).ownBlock.toList) w2 (w2.setCell ⟨c, 1, none⟩ (.slice (some ⟨g, 0, none⟩) (n + 1) cap)) := Only.setCell _ _ _ (by simp)
  have ho : Only (c :: (Value.slice q n cap0).ownBlock.toList) w1 (w2.setCell ⟨c, 1, none⟩ (.slice (some ⟨g, 0, none⟩) (n + 1) cap)) := ((Only.of_below hba _).trans ho2).trans ho3
  have hk : Kx TD B w1 (w2.setCell ⟨c, 1, none⟩ (.slice (some ⟨g, 0, none⟩) (n + 1) cap)) := Kx.of_only ho hB1 (fun y hy => by
    rcases List.mem_cons.1 hy with rfl | e
    · exact ⟨h1.low, fun o ho => by rw [h1.box] at ho; cases ho; simp [TD, tyOf]⟩
    · obtain ⟨a, cs, b⟩ := hx1.ty y (by simpa using e)
      exact ⟨a, fun o ho => by rw [b] at ho; cases ho; simp [TD, tyOf]⟩)
  have hcs : ∀ b, (Value.slice q n cap0).ownBlock = some b → b ≠ c := fun b hb e => by
    obtain ⟨_, cs, h3⟩ := hx1.ty b hb
    rw [e, h1.box] at h3
    cases h3
  have hc2 : w2.heap[c]? = some (.cells #[lv, (.slice q n cap0)] 42 (0, 0)) := by
    rw [hg.block c (Nat.lt_of_lt_of_le h1.lt hba.size) (fun e => hcs c e.symm rfl)]
    exact h2.box
  have hgc : g ≠ c := by
    rcases hat with e | e
    · exact hcs g e
    · have := h1.lt; omega
  have hown3 : (w2.setCell ⟨c, 1, none⟩ (.slice (some ⟨g, 0, none⟩) (n + 1) cap)).ownsRow B 23 1 (.slice (some ⟨g, 0, none⟩) (n + 1) cap) (ss.length + 1) (xs ++ [u]) := by
    rw [hn]
    exact own_only hown (Only.setCell (bs := [c]) w2 ⟨c, 1, none⟩ _ (by simp)) (Off.at (ad := ⟨g, 0, none⟩) (by simpa using hgc))
  have hrow : ∃ xs, RowB B (w2.setCell ⟨c, 1, none⟩ (.slice (some ⟨g, 0, none⟩) (n + 1) cap)) (.slice (some ⟨g, 0, none⟩) (n + 1) cap) xs (ss ++ [r]) := ⟨_, hx1.push hown3 hk (by decide) (hu.kx hk (by decide))⟩
  have hrest : ∃ xs, RowB B (w2.setCell ⟨c, 1, none⟩ (.slice (some ⟨g, 0, none⟩) (n + 1) cap)) lv xs ls := by
    obtain ⟨ys, hy⟩ := h1.links
    refine ⟨ys, hy.keep hk (by decide) (fun b hb => ?_)⟩
    have hbc : b ≠ c := fun e => by
      obtain ⟨_, cs, h3⟩ := hy.ty b hb
      rw [e, h1.box] at h3
      cases h3
    rw [Below.heap_setCell _ _ _ _ (fun e => hbc e), hg.block b (Nat.lt_of_lt_of_le (hy.lt b hb) hba.size) (fun e => h1.ap b hb e.symm)]
    exact hba.block b (hy.lt b hb)
  have hap : ∀ b, ((.slice (some ⟨g, 0, none⟩) (n + 1) cap) : Value).ownBlock = some b → lv.ownBlock ≠ some b := fun b hb e => by
    cases hb
    rcases hat with e2 | e2
    · exact h1.ap g e e2
    · obtain ⟨ys, hy⟩ := h1.links
      have := hy.lt g e
      omega
  exact ⟨⟨h1.low, heap_setCell_same w2 c 1 _ 42 _ hc2, hrest, hrow, Ap.symm hap⟩, ho⟩
end Go.Proofs.YtkiohhkmlpgdoaaDoor.S7
/- append of one slice of bytes onto a row of such. -/
namespace Go.Proofs.YtkiohhkmlpgdoaaDoor.S7
open Go.RowKit
theorem law_append_b {ops : Array Oper} {rest : List Oper} {dst : Option Tmp} {T : TypeId} {pos : String} {after : Array Edge} {a : Act} {w : World} {Q : Exit → Act → World → Prop} {so xo : Operand}
    (base : Nat) (v : Value) (n : Nat) (xs : List Value) (g : Nat) (p : Option Addr) (l c : Nat) (hs : a.eval so = v) (hx : a.eval xo = .slice (some ⟨g, 0, none⟩) 1 1) (hown : w.ownsRow base 23 1 v n xs) (hc : w.rangeAt g 0 [.slice p l c])
    (hn : n ≤ 1000000) (hbase : base ≤ w.heap.size)
    (h : ∀ v' w', w'.ownsRow base 23 1 v' (n + 1) (xs ++ [.slice p l c]) → w.grownBy w' v.ownBlock → wpList Tryd.prog ops Q rest (a.put dst v') w') :
    wpList Tryd.prog ops Q ({ dst := dst, op := .call { callee := .builtin .append, args := #[so, xo], argTypes := #[22, 22] }, type := T, pos := pos, after := after, guard := none } :: rest) a w := by
  obtain ⟨i, hi, hsz, hby, hz⟩ := info23e
  refine wpList_append_own_at _ rfl so xo 22 rfl base 23 i _ 1 24 Tryd.underlying22 hi hz hsz hby rfl (by decide) v n xs hs hown ⟨g, 0, none⟩ 1 1 [.slice p l c] hx rfl (fun j y hy => ?_) (by simp; rfl) (by unfold maxLen; omega) (by omega) hbase (fun v' w' h1 h2 _ _ => h v' w' h1 h2)
  rw [Addr.add_mid]
  exact hc j y hy
end Go.Proofs.YtkiohhkmlpgdoaaDoor.S7
/- What the document's chain turns, told by types and blocks; its Append: contract. -/
namespace Go.Proofs.YtkiohhkmlpgdoaaDoor.S7
open Go.RowKit
attribute [local go_sem] Go.wp_at_zero Go.wp_at_succ
/-- Nothing below a bound is turned, and no block but those of these types and of this list. -/
structure Kf (ts : List (Option TypeId)) (bs : List Nat) (B : Nat) (u u' : World) : Prop where
  low : Below B u u'
  row : ∀ (k : Nat) (o : Obj), u.heap[k]? = some o → tyOf o ∉ ts → k ∉ bs → u'.heap[k]? = some o
section
variable {B : Nat} {u u' u'' : World} {bs bs' : List Nat} {ts : List (Option TypeId)}
theorem Kf.of_kx (h : Kx ts B u u') (bs : List Nat) : Kf ts bs B u u' := ⟨h.low, fun k o h1 h2 _ => h.row k o h1 h2⟩
theorem Kf.of_below (h : Below u.heap.size u u') (hB : B ≤ u.heap.size) : Kf ts bs B u u' := Kf.of_kx (Kx.of_below h hB) bs
theorem Kf.of_only (h : Only bs u u') (hB : B ≤ u.heap.size) (hs : ∀ y ∈ bs, B ≤ y) : Kf ts bs B u u' :=
  ⟨h.below hB hs, fun k _ h1 _ h3 => (h.block k (Array.getElem?_eq_some_iff.1 h1).1 h3).trans h1⟩
theorem Kf.trans (h : Kf ts bs B u u') (k : Kf ts bs' B u' u'') (hb : ∀ y ∈ bs', y ∈ bs ∨ u.heap.size ≤ y) : Kf ts bs B u u'' :=
  ⟨h.low.trans k.low, fun i o h1 h2 h3 => k.row i o (h.row i o h1 h2 h3) h2 (fun e => (hb i e).elim h3 (fun e => by have := (Array.getElem?_eq_some_iff.1 h1).1; omega))⟩
end
/-- Append of bytes to a row of one's own, as a step of a region that draws. -/
theorem step_append_bs {ops : Array Oper} {o : Oper} {a : Act} {w : World} {K : Act → World → Prop} {Q : Exit → Act → World → Prop} {E : Prop} (hgd : o.guard = none) (so xo : Operand) (ho : o.op = .call { callee := .builtin .append, args := #[so, xo], argTypes := #[23, 23] })
    (base : Nat) (v : Value) (n : Nat) (l : List Nat) (xv : Value) (m : List Nat) (hs : a.eval so = v) (hx : a.eval xo = xv) (hown : w.ownsRow base 5 1 v n (ints .u8 l)) (hsrc : Src w xv m) (hm : 0 < m.length) (hn : n + m.length ≤ 100000) (hbase : base ≤ w.heap.size) (k : Nat) (hk : n + m.length = k)
    (h : ∀ g cap w', w'.ownsRow base 5 1 (.slice (some ⟨g, 0, none⟩) k cap) k (ints .u8 (l ++ m)) → Below base w w' → K (a.put o.dst (.slice (some ⟨g, 0, none⟩) k cap)) w') :
    if Region.wanted o (yielded ops a.tmps) = true then Oper.wp Tryd.prog o a w K Q else E := by
  subst hk
  obtain ⟨i, hi, hsz, hby, hz⟩ := info5e
  obtain ⟨_, ⟨rfl, rfl⟩ | ⟨ad, c, rfl, rfl⟩ | ⟨b, off, c, rfl, hc, hr⟩⟩ := hsrc
  · simp at hm
  · simp at hm
  · refine step_append_lies _ hgd so xo 23 ho base 5 i _ 1 1 Tryd.underlying23 hi hz hsz hby rfl (by decide) v n (ints .u8 l) hs hown ⟨b, off, none⟩ m.length c (ints .u8 m) hx (by rw [ints_length]; omega) (fun j u hu => by rw [Addr.add_mid]; exact hr j u hu) (fun u hu => by obtain ⟨q, _, rfl⟩ := List.mem_map.1 hu; rfl) hm (by unfold maxLen; omega) (by omega) hbase _ rfl ?_
    intro g cap w' h1 h2 _ _
    exact h g cap w' (by rw [ints_append]; exact h1) (below_append hown h2 hbase)
theorem cf27 (vs : Array Value) (w : World) : (callFunc 27 vs).run Tryd.prog w = .ok (.enter 27 vs) w := by kernel_rfl
section
variable {B : Nat} {w w' : World} {c : Nat} {lv sv : Value} {ls ss : List (List Nat)} {bs : List Nat}
theorem DcC.lts (h : DcC B w c lv sv ls ss) : (∀ b, lv.ownBlock = some b → b < w.heap.size) ∧ ∀ b, sv.ownBlock = some b → b < w.heap.size := by
  obtain ⟨xs, hx⟩ := h.links
  obtain ⟨ys, hy⟩ := h.sums
  exact ⟨hx.lt, hy.lt⟩
theorem DcC.fpB (h : DcC B w c lv sv ls ss) : ∀ y ∈ fp c lv sv, B ≤ y := fun y hy => by
  obtain ⟨xs, hx⟩ := h.links
  obtain ⟨ys, hys⟩ := h.sums
  rcases mem_fp.1 hy with rfl | e | e
  · exact h.low
  · exact (hx.ty y e).1
  · exact (hys.ty y e).1
theorem DcC.doc (h : DcC B w c lv sv ls ss) (hk : Kx [some 31, some 87] B w w') : DcC B w' c lv sv ls ss := by
  obtain ⟨xs, hx⟩ := h.links
  obtain ⟨ys, hy⟩ := h.sums
  refine h.keep hk (by decide) ((hk.row c _ h.box (by simp [tyOf])).trans h.box.symm) (fun b hb => ?_) (fun b hb => ?_)
  · obtain ⟨_, cs, h3⟩ := hx.ty b hb
    exact (hk.row b _ h3 (by simp [tyOf])).trans h3.symm
  · obtain ⟨_, cs, h3⟩ := hy.ty b hb
    exact (hk.row b _ h3 (by simp [tyOf])).trans h3.symm
end
set_option maxHeartbeats 16000000 in
set_option maxRecDepth 20000 in
theorem rAppend_any (B c d : Nat) (L : List Su.Thing) (lv sv : Value) (ls ss : List (List Nat)) (w : World) (bp : Option Addr) (bn bc : Nat) (b l : List Nat) (h : DcC B w c lv sv ls ss) (hd : Doc B w d L) (hL : L.length < 1000000) (hB : B ≤ w.heap.size) (hb : By B w (.slice bp bn bc) b) (hbn : 1 ≤ bn ∧ bn ≤ 4096) (hls : ls.length < 64) (hl : ss[ls.length]? = some l) (hl32 : l.length = 32) (hm : ss.length ≤ 1000) :
    Calls Tryd.prog 15 #[.pointer (some ⟨c, 0, none⟩), .pointer (some ⟨d, 0, none⟩), .slice bp bn bc] w fun e w' => e = .returned (.int .i64 0) ∧ ∃ lv' sv', DcC B w' c lv' sv' (ls ++ [b]) (ss ++ [sg L (l ++ b)]) ∧ Doc B w' d (ad L (l ++ b)) ∧ Kf [some 31, some 87] (fp c lv sv) B w w' ∧ Mv w.heap.size lv lv' ∧ Mv w.heap.size sv sv' := by
  obtain ⟨ys, hy⟩ := h.sums
  obtain ⟨xs, hx⟩ := h.links
  have hj := get_lt hl
  obtain ⟨g, cc, x, hsv, -, hc, hbx⟩ := hy.at hj
  obtain rfl : ss[ls.length] = l := by rw [List.getElem?_eq_getElem hj] at hl; exact Option.some.inj hl
  obtain ⟨lq, lc, hlv⟩ := hx.slice
  obtain ⟨d0, d1, -⟩ := h.cells
  rw [hsv] at d1
  rw [hlv] at d0
  have hbl : b.length = bn := by
    obtain ⟨p', c', e, _⟩ := hb.src.slice
    simp only [Value.slice.injEq] at e
    exact e.2.1.symm
  obtain ⟨xp, xc, hxe, _⟩ := hbx.src.slice
  subst hxe
  generalize hlg : ss[ls.length] = l at *
  obtain ⟨n, hn⟩ : ∃ n, ls.length = n := ⟨_, rfl⟩
  obtain ⟨m, hmm⟩ : ∃ m, ss.length = m := ⟨_, rfl⟩
  rw [hl32] at hc hbx
  /- behind the second region -/
  have HX1 : Hid (∀ w1 g1 cap1 w2, w1 = w.drew → w2.ownsRow B 23 1 (.slice (some ⟨g1, 0, none⟩) (n + 1) cap1) (n + 1) (xs ++ [.slice bp bn bc]) → (w1.alloc (.cells #[.slice bp bn bc] 23)).grownBy w2 (Value.slice lq n lc).ownBlock → ((Value.slice lq n lc).ownBlock = some g1 ∨ g1 = w1.heap.size + 1) →
      ∃ W, W = w2.setCell ⟨c, 0, none⟩ (.slice (some ⟨g1, 0, none⟩) (n + 1) cap1) ∧ w2.cell? ⟨c, 0, none⟩ = some (.slice lq n lc) ∧ w2.frozen? ⟨c, 0, none⟩ = false ∧ DcC B W c (.slice (some ⟨g1, 0, none⟩) (n + 1) cap1) sv (ls ++ [b]) ss ∧ Doc B W d L ∧ Kf [some 31, some 87] (fp c lv sv) B w W ∧ Mv w.heap.size lv (.slice (some ⟨g1, 0, none⟩) (n + 1) cap1) ∧ By B W (.slice xp 32 xc) l ∧ By B W (.slice bp bn bc) b ∧ B ≤ W.heap.size) := by
    rintro w1 g1 cap1 w2 rfl hown hg hat
    have hbd : Below w.heap.size w w.drew := below_drewN 1 w _
    have h1 := h.below hbd
    have hx1 := hx.below hbd
    rw [hlv, hn] at hx1
    rw [hlv] at h1
    rw [hn] at h1
    obtain ⟨r1, r2⟩ := h1.pushL hx1 (show B ≤ w.drew.heap.size from hB) hn (hb.below hbd) hown hg hat
    have hcb : ∀ e, (Value.slice lq n lc).ownBlock = some e → e ≠ c := fun e he hec => by
      obtain ⟨_, cs, h3⟩ := hx1.ty e he
      rw [hec, h1.box] at h3
      cases h3
    have hba := below_alloc' w.drew (.cells #[.slice bp bn bc] 23)
    have hc2 : w2.heap[c]? = some (.cells #[.slice lq n lc, sv] 42 (0, 0)) := by
      rw [hg.block c (Nat.lt_of_lt_of_le h1.lt hba.size) (fun e => hcb c e.symm rfl)]
      exact (h1.below hba).box
    have hsub : ∀ y ∈ c :: (Value.slice lq n lc).ownBlock.toList, y ∈ fp c lv sv := fun y hy => by
      rcases List.mem_cons.1 hy with e | e
      · exact mem_fp.2 (.inl e)
      · exact mem_fp.2 (.inr (.inl (by rw [hlv, hn]; simpa using e)))
    have hkf : Kf [some 31, some 87] (fp c lv sv) B w (w2.setCell ⟨c, 0, none⟩ (.slice (some ⟨g1, 0, none⟩) (n + 1) cap1)) := (Kf.of_below (bs := fp c lv sv) hbd hB).trans (Kf.of_only (r2.more hsub) hB h.fpB) (fun y hy => .inl hy)
    have hk : Kx TD B w (w2.setCell ⟨c, 0, none⟩ (.slice (some ⟨g1, 0, none⟩) (n + 1) cap1)) := (Kx.of_below hbd hB).trans (Kx.of_only r2 hB (fun y hy => by
      rcases List.mem_cons.1 hy with rfl | e
      · exact ⟨h1.low, fun o ho => by rw [h1.box] at ho; cases ho; simp [TD, tyOf]⟩
      · obtain ⟨a, cs, b⟩ := hx1.ty y (by simpa using e)
        exact ⟨a, fun o ho => by rw [b] at ho; cases ho; simp [TD, tyOf]⟩))
    refine ⟨_, rfl, by rw [cell_of_row _ _ _ _ _ _ hc2]; rfl, frozen_of_row _ _ _ _ _ hc2, r1, hd.kx hk (by decide) (by decide) (by decide), hkf, ⟨g1, rfl, ?_⟩, hbx.kx hk (by decide), hb.kx hk (by decide), Nat.le_trans hB hk.low.size⟩
    rcases hat with e | e
    · exact .inl (by rw [hlv, hn]; exact e)
    · exact .inr (by rw [e]; exact Nat.le_succ _)
  /- behind the third -/
  have HX2 : Hid (∀ W lv1 (g1 cap1 : Nat), lv1 = .slice (some ⟨g1, 0, none⟩) (n + 1) cap1 → DcC B W c lv1 sv (ls ++ [b]) ss → Doc B W d L → Kf [some 31, some 87] (fp c lv sv) B w W → Mv w.heap.size lv lv1 → By B W (.slice xp 32 xc) l → By B W (.slice bp bn bc) b → B ≤ W.heap.size →
      ∃ zs, ∀ w4 q4 c4, Below W.heap.size W w4 → w4.ownsRow W.heap.size 5 1 (.slice q4 (32 + bn) c4) (32 + bn) (ints .u8 (l ++ b)) → Calls Tryd.prog 27 #[.pointer (some ⟨d, 0, none⟩), .slice q4 (32 + bn) c4] w4 fun e w5 => ∃ uq uc, e = .returned (.slice uq 32 uc) ∧ (w5.cell? ⟨c, 1, none⟩ = some (.slice (some ⟨g, 0, none⟩) m cc) ∧ w5.frozen? ⟨c, 1, none⟩ = false ∧ c < w5.heap.size ∧ w5.ownsRow B 23 1 (.slice (some ⟨g, 0, none⟩) m cc) m zs ∧ B ≤ w5.heap.size ∧ (Value.slice (some ⟨g, 0, none⟩) m cc).ownBlock ≠ some c) ∧
        ∀ g' cap w6, w6.ownsRow B 23 1 (.slice (some ⟨g', 0, none⟩) (m + 1) cap) (m + 1) (zs ++ [.slice uq 32 uc]) → (w5.alloc (.cells #[.slice uq 32 uc] 23)).grownBy w6 (Value.slice (some ⟨g, 0, none⟩) m cc).ownBlock → ((Value.slice (some ⟨g, 0, none⟩) m cc).ownBlock = some g' ∨ g' = w5.heap.size + 1) →
          ∃ lv' sv', DcC B (w6.setCell ⟨c, 1, none⟩ (.slice (some ⟨g', 0, none⟩) (m + 1) cap)) c lv' sv' (ls ++ [b]) (ss ++ [sg L (l ++ b)]) ∧ Doc B (w6.setCell ⟨c, 1, none⟩ (.slice (some ⟨g', 0, none⟩) (m + 1) cap)) d (ad L (l ++ b)) ∧ Kf [some 31, some 87] (fp c lv sv) B w (w6.setCell ⟨c, 1, none⟩ (.slice (some ⟨g', 0, none⟩) (m + 1) cap)) ∧ Mv w.heap.size lv lv' ∧ Mv w.heap.size sv sv') := by
    rintro W lv1 g1 cap1 hlv1 k1 k2 k3 k4 k5 k6 k7
    obtain ⟨zs, hz⟩ := k1.sums
    rw [hsv, hmm] at hz k1 k3
    refine ⟨zs, fun w4 q4 c4 hb4 ho4 => ?_⟩
    have hsm : ∀ y ∈ l ++ b, y < 256 := fun y hy => (List.mem_append.1 hy).elim (k5.src.small y) (k6.src.small y)
    refine (rSum_any _ (l ++ b) B d L w4 (k2.below hb4) (By.own (n := 32 + bn) hsm ho4) (Nat.le_trans k7 hb4.size) hL).mono ?_
    rintro e w5 ⟨v, rfl, ho5, hd5, hk5⟩
    obtain ⟨uq, uc, rfl⟩ := own_slice ho5
    have k1' := (k1.below hb4).doc hk5
    have hz' : RowB B w5 (.slice (some ⟨g, 0, none⟩) m cc) zs ss := (hz.below hb4).keep hk5 (by decide) (fun b hb => by
      obtain ⟨_, cs, h3⟩ := (hz.below hb4).ty b hb
      exact (hk5.row b _ h3 (by simp [tyOf])).trans h3.symm)
    have hB5 : B ≤ w5.heap.size := Nat.le_trans k7 (Nat.le_trans hb4.size hk5.low.size)
    have hW5 : W.heap.size ≤ w5.heap.size := Nat.le_trans hb4.size hk5.low.size
    have hwW : w.heap.size ≤ W.heap.size := k3.low.size
    refine ⟨uq, uc, rfl, ⟨k1'.cells.2.1, k1'.cells.2.2 1, k1'.lt, by have := hz'.own; rw [hmm] at this; exact this, hB5, fun e => ?_⟩, fun g' cap w6 hown hg hat => ?_⟩
    · obtain ⟨_, cs, h3⟩ := hz'.ty c e
      rw [k1'.box] at h3
      cases h3
    · obtain ⟨r1, r2⟩ := k1'.pushS hz' hB5 hmm (By.own (n := 32) (sg_small _ _) ho5) hown hg hat
      have hk : Kx TD B w5 (w6.setCell ⟨c, 1, none⟩ (.slice (some ⟨g', 0, none⟩) (m + 1) cap)) := Kx.of_only r2 hB5 (fun y hy => by
        rcases List.mem_cons.1 hy with rfl | e
        · exact ⟨k1'.low, fun o ho => by rw [k1'.box] at ho; cases ho; simp [TD, tyOf]⟩
        · obtain ⟨a, cs, b⟩ := hz'.ty y (by simpa using e)
          exact ⟨a, fun o ho => by rw [b] at ho; cases ho; simp [TD, tyOf]⟩)
      refine ⟨lv1, _, r1, hd5.kx hk (by decide) (by decide) (by decide), ?_, k4, ⟨g', rfl, ?_⟩⟩
      · rw [hsv, hmm]
        refine ((k3.trans (Kf.of_below (bs := []) hb4 k7) (fun y hy => by simp at hy)).trans (Kf.of_kx hk5 []) (fun y hy => by simp at hy)).trans (Kf.of_only r2 hB5 (fun y hy => ?_)) (fun y hy => .inl ?_)
        · rcases List.mem_cons.1 hy with rfl | e
          · exact k1'.low
          · exact (hz'.ty y (by simpa using e)).1
        · rcases List.mem_cons.1 hy with e | e
          · exact mem_fp.2 (.inl e)
          · exact mem_fp.2 (.inr (.inr (by simpa using e)))
      · rw [hsv, hmm]
        rcases hat with e | e
        · exact .inl e
        · exact .inr (by omega)
  have q1 : ¬ (bn : Int) < 1 := by omega
  have q2 : ¬ (4096 : Int) < (bn : Int) := by omega
  have q3 : ¬ (64 : Int) ≤ (n : Int) := by omega
  have q4 : (0 : Int) ≤ (n : Int) := by omega
  have q5 : (n : Int) < (m : Int) := by omega
  have q6 : n < m := by omega
  rw [hn] at d0 hc
  rw [hmm] at d1
  have HXO : Hid (w.ownsRow B 23 1 (.slice lq n lc) n xs) := by have := hx.own; rw [hlv, hn] at this; exact this
  have HB : Hid (B ≤ w.heap.size) := hB
  have HLL : Hid (l.length = 32 ∧ b.length = bn ∧ 1 ≤ bn ∧ bn ≤ 4096) := ⟨hl32, hbl, hbn⟩
  have hxn : n + 1 ≤ maxLen := by unfold maxLen; omega
  have hxb : (n + 1) * 24 ≤ 140737488355328 := by omega
  have hyn : m + 1 ≤ maxLen := by unfold maxLen; omega
  have hyb : (m + 1) * 24 ≤ 140737488355328 := by omega
  obtain ⟨i0, hi0, hz1, hz2, hz0⟩ := info23e
  have lc0 := h.lt
  have HSV : Hid (sv = .slice (some ⟨g, 0, none⟩) m cc) := by rw [hsv, hmm]; rfl
  clear h hx hy hbx hb hd hl hj hlg hlv hsv hbl hl32 hn hmm hB hm hbn hls hL
  go_enter Tryd.func15, Tryd.ntmps15
  go_wp2_with fail
  go_region
  all_goals
    go_wp2_with (first | with_reducible (refine stop_builtin .append ?_))
    refine Stop.go ?_
    refine wpList_append_lies _ rfl _ _ 22 rfl B 23 i0 _ 1 24 Tryd.underlying22 hi0 hz0 hz1 hz2 rfl (by decide) (.slice lq n lc) n xs (by rfl) (own_only HXO.out ((Only.of_below (below_drewN 1 w _) []).trans (Only.of_below (below_alloc' w.drew _) [])) (fun _ _ => by simp)) ⟨w.heap.size, 0, none⟩ 1 1 [.slice bp bn bc] (by rfl) rfl (World.news_of_block (cs := #[.slice bp bn bc]) (t := 23) (fr := (0, 0)) (heap_alloc_new w.drew _)) (by simp [Value.oneCell']) (by decide) hxn hxb (by have := HB.out; simp; omega) (w.heap.size + 1) (by simp) ?_
    intro g1 cap1 w2 hown hg hat hlt
    obtain ⟨W, hW, e1, e2, hX⟩ := HX1.out w.drew g1 cap1 w2 rfl hown hg hat
    have HXX : Hid (DcC B W c (.slice (some ⟨g1, 0, none⟩) (n + 1) cap1) sv (ls ++ [b]) ss ∧ Doc B W d L ∧ Kf [some 31, some 87] (fp c lv sv) B w W ∧ Mv w.heap.size lv (.slice (some ⟨g1, 0, none⟩) (n + 1) cap1) ∧ By B W (.slice xp 32 xc) l ∧ By B W (.slice bp bn bc) b ∧ B ≤ W.heap.size) := hX
    clear hown hg hat hX HX1 d0 d1 hc
    go_wp2_with fail
    rw [← hW]
    clear e1 e2 hW hlt HXO
    obtain ⟨zs, hC4⟩ := HX2.out W _ g1 cap1 rfl HXX.out.1 HXX.out.2.1 HXX.out.2.2.1 HXX.out.2.2.2.1 HXX.out.2.2.2.2.1 HXX.out.2.2.2.2.2.1 HXX.out.2.2.2.2.2.2
    have HC4 : Hid (∀ w4 q4 c4, Below W.heap.size W w4 → w4.ownsRow W.heap.size 5 1 (.slice q4 (32 + bn) c4) (32 + bn) (ints .u8 (l ++ b)) → Calls Tryd.prog 27 #[.pointer (some ⟨d, 0, none⟩), .slice q4 (32 + bn) c4] w4 fun e w5 => ∃ uq uc, e = .returned (.slice uq 32 uc) ∧ (w5.cell? ⟨c, 1, none⟩ = some (.slice (some ⟨g, 0, none⟩) m cc) ∧ w5.frozen? ⟨c, 1, none⟩ = false ∧ c < w5.heap.size ∧ w5.ownsRow B 23 1 (.slice (some ⟨g, 0, none⟩) m cc) m zs ∧ B ≤ w5.heap.size ∧ (Value.slice (some ⟨g, 0, none⟩) m cc).ownBlock ≠ some c) ∧
        ∀ g' cap w6, w6.ownsRow B 23 1 (.slice (some ⟨g', 0, none⟩) (m + 1) cap) (m + 1) (zs ++ [.slice uq 32 uc]) → (w5.alloc (.cells #[.slice uq 32 uc] 23)).grownBy w6 (Value.slice (some ⟨g, 0, none⟩) m cc).ownBlock → ((Value.slice (some ⟨g, 0, none⟩) m cc).ownBlock = some g' ∨ g' = w5.heap.size + 1) →
          ∃ lv' sv', DcC B (w6.setCell ⟨c, 1, none⟩ (.slice (some ⟨g', 0, none⟩) (m + 1) cap)) c lv' sv' (ls ++ [b]) (ss ++ [sg L (l ++ b)]) ∧ Doc B (w6.setCell ⟨c, 1, none⟩ (.slice (some ⟨g', 0, none⟩) (m + 1) cap)) d (ad L (l ++ b)) ∧ Kf [some 31, some 87] (fp c lv sv) B w (w6.setCell ⟨c, 1, none⟩ (.slice (some ⟨g', 0, none⟩) (m + 1) cap)) ∧ Mv w.heap.size lv lv' ∧ Mv w.heap.size sv sv') := hC4
    have HS1 : Hid (∀ w', Below W.heap.size W w' → Src w' (.slice xp 32 xc) l ∧ Src w' (.slice bp bn bc) b) := fun w' hb => ⟨(HXX.out.2.2.2.2.1.below hb).src, (HXX.out.2.2.2.2.2.1.below hb).src⟩
    have HCL : Hid (∀ w', Below W.heap.size W w' → w'.cell? ⟨c, 1, none⟩ = some (.slice (some ⟨g, 0, none⟩) m cc)) := fun w' hb => by
      have := (HXX.out.1.below hb).cells.2.1
      rw [HSV.out] at this
      exact this
    have x1 := HCL.out W (Below.refl _ _)
    have lcW := HXX.out.1.lt
    have HBA : Hid (Below W.heap.size W (W.alloc (.cells #[] 5)).drew) := (below_alloc' W _).trans (below_drewN 1 _ _)
    have HE : Hid ((W.alloc (.cells #[] 5)).drew.ownsRow W.heap.size 5 1 (.slice (some ⟨W.heap.size, 0, none⟩) 0 0) 0 (ints .u8 [])) :=
      ⟨rfl, .inr ⟨W.heap.size, 0, #[], rfl, Nat.le_refl _, heap_alloc_new W _, Nat.le_refl _, by unfold maxLen; decide, rfl, rfl⟩⟩
    clear HX2 hC4 HXX HSV
    go_region_law ((first
      | (refine step_append_bs rfl (.tmp 49) (.tmp 50) rfl W.heap.size (.slice (some ⟨W.heap.size, 0, none⟩) 0 0) 0 [] (.slice xp 32 xc) l (by rfl) (by rfl) HE.out (HS1.out _ HBA.out).1 (by have := HLL.out; omega) (by have := HLL.out; omega) (by simp) 32 (by have := HLL.out; omega) ?_; intro g3 cap3 w3 ho3 hb3; have HB3 : Hid (Below W.heap.size W w3) := HBA.out.trans hb3; have HO3 : Hid (w3.ownsRow W.heap.size 5 1 (.slice (some ⟨g3, 0, none⟩) 32 cap3) 32 (ints .u8 l)) := ho3; have x3 := HCL.out w3 HB3.out; clear ho3 hb3)
      | (refine step_append_bs rfl (.tmp 51) (.tmp 52) rfl W.heap.size (.slice (some ⟨g3, 0, none⟩) 32 cap3) 32 l (.slice bp bn bc) b (by rfl) (by rfl) HO3.out (HS1.out _ HB3.out).2 (by have := HLL.out; omega) (by have := HLL.out; omega) HB3.out.size (32 + bn) (by have := HLL.out; omega) ?_; intro g4 cap4 w4 ho4 hb4; have HB4 : Hid (Below W.heap.size W w4) := HB3.out.trans hb4; have HO4 : Hid (w4.ownsRow W.heap.size 5 1 (.slice (some ⟨g4, 0, none⟩) (32 + bn) cap4) (32 + bn) (ints .u8 (l ++ b))) := ho4; have x4 := HCL.out w4 HB4.out; clear ho4 hb4)
      | (refine step_call2 rfl 27 cf27 (.tmp 48) (.tmp 53) #[28, 23] rfl _ _ rfl rfl ((HC4.out w4 _ cap4 HB4.out HO4.out).mono ?_); rintro e w5 ⟨uq, uc, rfl, ⟨e1, e2, e3, e4, e5, av⟩, HF⟩; refine ⟨_, rfl, ?_⟩)
      | (refine step_append_lies _ (by rfl) (.tmp 47) (.tmp 55) 22 (by rfl) B 23 i0 _ 1 24 Tryd.underlying22 hi0 hz0 hz1 hz2 rfl (by omega) (.slice (some ⟨g, 0, none⟩) m cc) m zs (by rfl) (e4.alloc _) ⟨w5.heap.size, 0, none⟩ 1 1 [.slice uq 32 uc] (by rfl) (by rfl) (World.news_of_block (cs := #[.slice uq 32 uc]) (t := 23) (fr := (0, 0)) (heap_alloc_new w5 _)) (by simp [Value.oneCell']) (by omega) hyn hyb (by simp; omega) (w5.heap.size + 1) (by simp) ?_; intro gg cap w6 hown6 hgrow hat hlt; have hc6 : w6.cell? ⟨c, 1, none⟩ = some (.slice (some ⟨g, 0, none⟩) m cc) := (hgrow.cell_far _ (by simp; omega) (Ne.symm av)).trans (((below_alloc' w5 _).cell (p := ⟨c, 1, none⟩) e3).trans e1); have hf6 : w6.frozen? ⟨c, 1, none⟩ = false := (hgrow.frozen_far _ (by simp; omega) (Ne.symm av)).trans ((frozen?_alloc_cells w5 _ _ _).trans e2))))
    all_goals
      have HZ : Hid (∃ lv' sv', DcC B (w6.setCell ⟨c, 1, none⟩ (.slice (some ⟨gg, 0, none⟩) (m + 1) cap)) c lv' sv' (ls ++ [b]) (ss ++ [sg L (l ++ b)]) ∧ Doc B (w6.setCell ⟨c, 1, none⟩ (.slice (some ⟨gg, 0, none⟩) (m + 1) cap)) d (ad L (l ++ b)) ∧ Kf [some 31, some 87] (fp c lv sv) B w (w6.setCell ⟨c, 1, none⟩ (.slice (some ⟨gg, 0, none⟩) (m + 1) cap)) ∧ Mv w.heap.size lv lv' ∧ Mv w.heap.size sv sv') := HF _ _ _ hown6 hgrow hat
      clear HF hown6 hgrow hat
      go_wp2_with fail
      go_ret
      exact ⟨rfl, HZ.out⟩
end Go.Proofs.YtkiohhkmlpgdoaaDoor.S7
/- A chain of the program and the document's, side by side. -/
namespace Go.Proofs.YtkiohhkmlpgdoaaDoor.S7
open Go.RowKit
/-- The program's chain (a suite of signs) and the document's (a list). -/
def Pr2 (B : Nat) (w : World) (p q m x c d dc : Nat) (L : List Su.Thing) (ls ss : List (List Nat)) (M : List Su.Thing) (ms ns : List (List Nat)) : Prop :=
  ∃ lv sv lv' sv', Sw B w p q m x L ∧ ChIs B w c p lv sv ls ss ∧ Doc B w d M ∧ DcC B w dc lv' sv' ms ns ∧ (Ap lv lv' ∧ Ap lv sv' ∧ Ap sv lv' ∧ Ap sv sv') ∧ B ≤ w.heap.size
section
variable {B : Nat} {w w' : World} {p q m x c d dc : Nat} {L M : List Su.Thing} {ls ss ms ns : List (List Nat)}
theorem Pr2.below (h : Pr2 B w p q m x c d dc L ls ss M ms ns) (hb : Below w.heap.size w w') : Pr2 B w' p q m x c d dc L ls ss M ms ns := by
  obtain ⟨lv, sv, lv', sv', h1, h2, h3, h4, h5, h6⟩ := h
  exact ⟨lv, sv, lv', sv', h1.below hb, h2.below hb, h3.below hb, h4.below hb, h5, Nat.le_trans h6 hb.size⟩
theorem Pr2.one (h : Pr2 B w p q m x c d dc L ls ss M ms ns) : One B w p q m x c L ls ss := by
  obtain ⟨lv, sv, lv', sv', h1, h2, h3, h4, h5, h6⟩ := h
  exact ⟨lv, sv, h1, h2, h6⟩
theorem Pr2.dcc (h : Pr2 B w p q m x c d dc L ls ss M ms ns) : ∃ lv' sv', DcC B w dc lv' sv' ms ns := by
  obtain ⟨lv, sv, lv', sv', h1, h2, h3, h4, h5, h6⟩ := h
  exact ⟨lv', sv', h4⟩
theorem Pr2.size (h : Pr2 B w p q m x c d dc L ls ss M ms ns) : B ≤ w.heap.size := by
  obtain ⟨lv, sv, lv', sv', h1, h2, h3, h4, h5, h6⟩ := h
  exact h6
/-- The document's chain and list are new. -/
theorem pr_new (h : One B w p q m x c L ls ss) (hd : Doc B w d M) (hM : M.length < 1000000) {n : Nat} (hn : n ≤ 1099511627776) :
    Calls Tryd.prog 13 #[.pointer (some ⟨d, 0, none⟩), .int .i64 (n : Int)] w fun e w' => ∃ dc, e = .returned (.pointer (some ⟨dc, 0, none⟩)) ∧ Pr2 B w' p q m x c d dc L ls ss (ad M (lock6 ++ first n)) [] [sg M (lock6 ++ first n)] ∧ Below B w w' := by
  obtain ⟨lv, sv, hs, hc, hB⟩ := h
  refine (rNew_any B d n M w hd hB hn hM).mono ?_
  rintro e w' ⟨dc, sv', rfl, h1, h2, h3, h4, h5⟩
  obtain ⟨xs, hx⟩ := hc.links
  obtain ⟨ys, hy⟩ := hc.sums
  obtain ⟨es, k1, hm, _⟩ := hs.su.nums
  obtain ⟨es', k2, hm', _⟩ := hs.su.boxes
  refine ⟨dc, rfl, ⟨lv, sv, _, sv', ⟨hs.su.kept (fun k hk' => ?_), hs.lo⟩, hc.keep h3 (by decide) ((h3.row c _ hc.box (by simp [tyOf])).trans hc.box.symm) (fun b hb => ?_) (fun b hb => ?_), h2, h1, ⟨fun b _ e => (by cases e), fun b hb e => ?_, fun b _ e => (by cases e), fun b hb e => ?_⟩, Nat.le_trans hB h3.low.size⟩, h3.low⟩
  · rcases hk' with rfl | rfl | rfl | rfl
    · exact (h3.row _ _ hs.su.box (by simp [tyOf])).trans hs.su.box.symm
    · exact (h3.row _ _ hs.su.signs (by simp [tyOf])).trans hs.su.signs.symm
    · exact (h3.row _ _ hm (by simp [tyOf])).trans hm.symm
    · exact (h3.row _ _ hm' (by simp [tyOf])).trans hm'.symm
  · obtain ⟨_, cs, h6⟩ := hx.ty b hb
    exact (h3.row b _ h6 (by simp [tyOf])).trans h6.symm
  · obtain ⟨_, cs, h6⟩ := hy.ty b hb
    exact (h3.row b _ h6 (by simp [tyOf])).trans h6.symm
  · have h6 := hx.lt b hb
    have h7 := h5 b e
    omega
  · have h6 := hy.lt b hb
    have h7 := h5 b e
    omega
/-- The program's chain goes on. -/
theorem p_append (h : Pr2 B w p q m x c d dc L ls ss M ms ns) (hL : L.length < 1000000) {bp : Option Addr} {bn bc : Nat} {b l : List Nat} (hb : By B w (.slice bp bn bc) b) (hbn : 1 ≤ bn ∧ bn ≤ 4096) (hls : ls.length < 64) (hl : ss[ls.length]? = some l) (hll : l.length ≤ 50000) (hm : ss.length ≤ 1000) :
    Calls Tryd.prog 14 #[.pointer (some ⟨c, 0, none⟩), .slice bp bn bc] w fun e w' => e = .returned (.int .i64 0) ∧ Pr2 B w' p q m x c d dc (ad L (l ++ b)) (ls ++ [b]) (ss ++ [sg L (l ++ b)]) M ms ns ∧ Kx TS B w w' := by
  obtain ⟨lv, sv, lv', sv', hs, hc, hd, hdc, ⟨a1, a2, a3, a4⟩, hB⟩ := h
  refine (Append_s B c p q m x L lv sv ls ss w bp bn bc b l hs hL hc hB hb hbn hls hl hll hm).mono ?_
  rintro e w' ⟨rfl, lv1, sv1, h1, h2, h3, h4, h5⟩
  have hk := Two.kx hs hc hB h3
  have hlt := hdc.lts
  obtain ⟨xs, hx⟩ := hdc.links
  obtain ⟨ys, hy⟩ := hdc.sums
  obtain ⟨zs, hz⟩ := hc.links
  obtain ⟨us, hu⟩ := hc.sums
  obtain ⟨es, k1, hm, _⟩ := hs.su.nums
  have key : ∀ b cs t fr, w.heap[b]? = some (.cells cs t fr) → t ≠ 69 → t ≠ 73 → (lv.ownBlock ≠ some b) → (sv.ownBlock ≠ some b) → b ∉ [p, m] ++ fp c lv sv := by
    intro b cs t fr hb t1 t2 n1 n2 e
    rcases List.mem_append.1 e with e | e
    · rcases List.mem_cons.1 e with rfl | e
      · rw [hs.su.box] at hb; cases hb; exact t1 rfl
      · rw [List.mem_singleton.1 e, hm] at hb; cases hb
    · rcases mem_fp.1 e with rfl | e | e
      · rw [hc.box] at hb; cases hb; exact t2 rfl
      · exact n1 e
      · exact n2 e
  have hdn1 : lv.ownBlock ≠ some dc := fun e => by
    obtain ⟨_, cs, h6⟩ := hz.ty dc e
    rw [hdc.box] at h6; cases h6
  have hdn2 : sv.ownBlock ≠ some dc := fun e => by
    obtain ⟨_, cs, h6⟩ := hu.ty dc e
    rw [hdc.box] at h6; cases h6
  have hdc' : DcC B w' dc lv' sv' ms ns := hdc.keep hk (by decide) (h3.block dc hdc.lt (key dc _ _ _ hdc.box (by decide) (by decide) hdn1 hdn2)) (fun b hb => by
      obtain ⟨_, cs, h6⟩ := hx.ty b hb
      exact h3.block b (hx.lt b hb) (key b _ _ _ h6 (by decide) (by decide) (fun e => a1 b e hb) (fun e => a3 b e hb))) (fun b hb => by
      obtain ⟨_, cs, h6⟩ := hy.ty b hb
      exact h3.block b (hy.lt b hb) (key b _ _ _ h6 (by decide) (by decide) (fun e => a2 b e hb) (fun e => a4 b e hb)))
  exact ⟨rfl, ⟨lv1, sv1, lv', sv', h2, h1, hd.kx hk (by decide) (by decide) (by decide), hdc', ⟨a1.mv h5 hlt.1, a2.mv h5 hlt.2, a3.mv h4 hlt.1, a4.mv h4 hlt.2⟩, Nat.le_trans hB h3.size⟩, hk⟩
/-- The document's chain goes on. -/
theorem d_append (h : Pr2 B w p q m x c d dc L ls ss M ms ns) (hM : M.length < 1000000) {bp : Option Addr} {bn bc : Nat} {b l : List Nat} (hb : By B w (.slice bp bn bc) b) (hbn : 1 ≤ bn ∧ bn ≤ 4096) (hls : ms.length < 64) (hl : ns[ms.length]? = some l) (hll : l.length = 32) (hm : ns.length ≤ 1000) :
    Calls Tryd.prog 15 #[.pointer (some ⟨dc, 0, none⟩), .pointer (some ⟨d, 0, none⟩), .slice bp bn bc] w fun e w' => e = .returned (.int .i64 0) ∧ Pr2 B w' p q m x c d dc L ls ss (ad M (l ++ b)) (ms ++ [b]) (ns ++ [sg M (l ++ b)]) ∧ Below B w w' := by
  obtain ⟨lv, sv, lv', sv', hs, hc, hd, hdc, ⟨a1, a2, a3, a4⟩, hB⟩ := h
  refine (rAppend_any B dc d M lv' sv' ms ns w bp bn bc b l hdc hd hM hB hb hbn hls hl hll hm).mono ?_
  rintro e w' ⟨rfl, lv1, sv1, h1, h2, h3, h4, h5⟩
  have hlt := hc.lts
  obtain ⟨xs, hx⟩ := hdc.links
  obtain ⟨ys, hy⟩ := hdc.sums
  obtain ⟨zs, hz⟩ := hc.links
  obtain ⟨us, hu⟩ := hc.sums
  obtain ⟨es, k1, hm, _⟩ := hs.su.nums
  obtain ⟨es', k2, hm', _⟩ := hs.su.boxes
  have key : ∀ b o, w.heap[b]? = some o → tyOf o ≠ some 31 → tyOf o ≠ some 87 → tyOf o ≠ some 42 → (tyOf o = some 23 → lv'.ownBlock ≠ some b ∧ sv'.ownBlock ≠ some b) → w'.heap[b]? = w.heap[b]? := by
    intro b o hb t1 t2 t3 n1
    refine (h3.row b o hb (by simp; exact ⟨t1, t2⟩) (fun e => ?_)).trans hb.symm
    rcases mem_fp.1 e with rfl | e | e
    · rw [hdc.box] at hb; cases hb; exact t3 rfl
    · obtain ⟨_, cs, h6⟩ := hx.ty b e
      rw [h6] at hb; cases hb
      exact (n1 rfl).1 e
    · obtain ⟨_, cs, h6⟩ := hy.ty b e
      rw [h6] at hb; cases hb
      exact (n1 rfl).2 e
  have hkx : Kx [some 31, some 87, some 42, some 23] B w w' := ⟨h3.low, fun k o hk ht => by
    simp at ht
    exact (key k o hk (fun e => ht.1 e) (fun e => ht.2.1 e) (fun e => ht.2.2.1 e) (fun e => absurd e ht.2.2.2)).trans hk⟩
  have hc' : ChIs B w' c p lv sv ls ss := hc.keep hkx (by decide) (key c _ hc.box (by simp [tyOf]) (by simp [tyOf]) (by simp [tyOf]) (fun e => by simp [tyOf] at e)) (fun b hb => by
      obtain ⟨_, cs, h6⟩ := hz.ty b hb
      exact key b _ h6 (by simp [tyOf]) (by simp [tyOf]) (by simp [tyOf]) (fun _ => ⟨a1 b hb, a2 b hb⟩)) (fun b hb => by
      obtain ⟨_, cs, h6⟩ := hu.ty b hb
      exact key b _ h6 (by simp [tyOf]) (by simp [tyOf]) (by simp [tyOf]) (fun _ => ⟨a3 b hb, a4 b hb⟩))
  have hs' : Sw B w' p q m x L := ⟨hs.su.kept (fun k hk' => by
    rcases hk' with rfl | rfl | rfl | rfl
    · exact key _ _ hs.su.box (by simp [tyOf]) (by simp [tyOf]) (by simp [tyOf]) (fun e => by simp [tyOf] at e)
    · exact key _ _ hs.su.signs (by simp [tyOf]) (by simp [tyOf]) (by simp [tyOf]) (fun e => by simp [tyOf] at e)
    · exact key _ _ hm (by simp [tyOf]) (by simp [tyOf]) (by simp [tyOf]) (fun e => by simp [tyOf] at e)
    · exact key _ _ hm' (by simp [tyOf]) (by simp [tyOf]) (by simp [tyOf]) (fun e => by simp [tyOf] at e)), hs.lo⟩
  exact ⟨rfl, ⟨lv, sv, lv1, sv1, hs', hc', h2, h1, ⟨(a1.symm.mv h4 hlt.1).symm, (a2.symm.mv h5 hlt.1).symm, (a3.symm.mv h4 hlt.2).symm, (a4.symm.mv h5 hlt.2).symm⟩, Nat.le_trans hB h3.low.size⟩, h3.low⟩
end
end Go.Proofs.YtkiohhkmlpgdoaaDoor.S7
