/- The contract of Append: whatever the suite's Sum is. -/
import Derived.Test.YtkiohhkmlpgdoaaDoorC12Sum
import Derived.Deep.RegionWith
namespace Go.Proofs.YtkiohhkmlpgdoaaDoor.S7
open Go.RowKit
attribute [local go_sem] Go.wp_at_zero Go.wp_at_succ
theorem cf16 (vs : Array Value) (w : World) : (callFunc 16 vs).run Tryd.prog w = .ok (.enter 16 vs) w := by kernel_rfl
theorem cf26 (vs : Array Value) (w : World) : (callFunc 26 vs).run Tryd.prog w = .ok (.enter 26 vs) w := by kernel_rfl
theorem cf28 (vs : Array Value) (w : World) : (callFunc 28 vs).run Tryd.prog w = .ok (.enter 28 vs) w := by kernel_rfl
/-- A chain whose links have grown by one. -/
theorem ChIs.pushL {B : Nat} {w1 w2 : World} {c p : Nat} {sv : Value} {q : Option Addr} {n cap0 : Nat} {ls ss : List (List Nat)} {xs : List Value} {r : List Nat} {u : Value} {g cap : Nat}
    (h1 : ChIs B w1 c p (.slice q n cap0) sv ls ss) (hx1 : RowB B w1 (.slice q n cap0) xs ls) (hB1 : B ≤ w1.heap.size) (hn : ls.length = n)
    (hu : By B w1 u r) (hown : w2.ownsRow B 23 1 (.slice (some ⟨g, 0, none⟩) (n + 1) cap) (n + 1) (xs ++ [u])) (hg : (w1.alloc (.cells #[u] 23)).grownBy w2 (Value.slice q n cap0).ownBlock) (hat : (Value.slice q n cap0).ownBlock = some g ∨ g = w1.heap.size + 1) :
    ChIs B (w2.setCell ⟨c, 1, none⟩ (.slice (some ⟨g, 0, none⟩) (n + 1) cap)) c p (.slice (some ⟨g, 0, none⟩) (n + 1) cap) sv (ls ++ [r]) ss ∧ Only (c :: (Value.slice q n cap0).ownBlock.toList) w1 (w2.setCell ⟨c, 1, none⟩ (.slice (some ⟨g, 0, none⟩) (n + 1) cap)) := by
  have hba := below_alloc' w1 (.cells #[u] 23)
  have h2 := h1.below hba
  have hsub : ∀ y ∈ c :: (Value.slice q n cap0).ownBlock.toList, y ∈ fp c (.slice q n cap0) sv := fun y hy => by
    rcases List.mem_cons.1 hy with e | e
    · exact mem_fp.2 (.inl e)
    · exact mem_fp.2 (.inr (.inl (by simpa using e)))
  have ho2 : Only (c :: (Value.slice q n cap0).ownBlock.toList) (w1.alloc (.cells #[u] 23)) w2 := Only.of_grown hg (fun y hy => List.mem_cons_of_mem _ (by simpa using hy))
  have ho3 : Only (c :: (Value.slice q n cap0).ownBlock.toList) w2 (w2.setCell ⟨c, 1, none⟩ (.slice (some ⟨g, 0, none⟩) (n + 1) cap)) := Only.setCell _ _ _ (by simp)
  have ho : Only (c :: (Value.slice q n cap0).ownBlock.toList) w1 (w2.setCell ⟨c, 1, none⟩ (.slice (some ⟨g, 0, none⟩) (n + 1) cap)) := ((Only.of_below hba _).trans ho2).trans ho3
  have hk : Kx TS B w1 (w2.setCell ⟨c, 1, none⟩ (.slice (some ⟨g, 0, none⟩) (n + 1) cap)) := Kx.of_only ho hB1 (fun y hy => h1.fpty y (hsub y hy))
  have hcs : ∀ b, (Value.slice q n cap0).ownBlock = some b → b ≠ c := fun b hb e => by
    obtain ⟨_, cs, h3⟩ := hx1.ty b hb
    rw [e, h1.box] at h3
    cases h3
  have hc2 : w2.heap[c]? = some (.cells #[.pointer (some ⟨p, 0, none⟩), .slice q n cap0, sv] 73 (0, 0)) := by
    rw [hg.block c (Nat.lt_of_lt_of_le h1.lt hba.size) (fun e => hcs c e.symm rfl)]
    exact h2.box
  have hgc : g ≠ c := by
    rcases hat with e | e
    · exact hcs g e
    · have := h1.lt; omega
  have hown3 : (w2.setCell ⟨c, 1, none⟩ (.slice (some ⟨g, 0, none⟩) (n + 1) cap)).ownsRow B 23 1 (.slice (some ⟨g, 0, none⟩) (n + 1) cap) (ls.length + 1) (xs ++ [u]) := by
    rw [hn]
    exact own_only hown (Only.setCell (bs := [c]) w2 ⟨c, 1, none⟩ _ (by simp)) (Off.at (ad := ⟨g, 0, none⟩) (by simpa using hgc))
  refine ⟨⟨h1.low, heap_setCell_same w2 c 1 _ 73 _ hc2, ⟨_, hx1.push hown3 hk (by decide) (hu.kx hk (by decide))⟩, ?_, fun b hb e => ?_⟩, ho⟩
  · obtain ⟨ys, hy⟩ := h1.sums
    refine ⟨ys, hy.keep hk (by decide) (fun b hb => ?_)⟩
    have hbc : b ≠ c := fun e => by
      obtain ⟨_, cs, h3⟩ := hy.ty b hb
      rw [e, h1.box] at h3
      cases h3
    rw [Below.heap_setCell _ _ _ _ (fun e => hbc e), hg.block b (Nat.lt_of_lt_of_le (hy.lt b hb) hba.size) (fun e => h1.ap b e.symm hb)]
    exact hba.block b (hy.lt b hb)
  · cases hb
    rcases hat with e2 | e2
    · exact h1.ap g e2 e
    · obtain ⟨ys, hy⟩ := h1.sums
      have := hy.lt g e
      omega
theorem Append_size (B c p : Nat) (lv sv : Value) (ls ss : List (List Nat)) (w : World) (bp : Option Addr) (n bc : Nat) (_h : ChIs B w c p lv sv ls ss) (hn : n < 1 ∨ 4096 < n) :
    Calls Tryd.prog 14 #[.pointer (some ⟨c, 0, none⟩), .slice bp n bc] w fun e w' => e = .returned (.int .i64 11) ∧ w' = w := by
  by_cases h1 : n < 1
  · have q1 : (n : Int) < 1 := by omega
    clear hn
    go_enter Tryd.func14, Tryd.ntmps14
    go_wp2_with fail
    go_ret
    exact ⟨rfl, rfl⟩
  · have q1 : ¬ (n : Int) < 1 := by omega
    have q2 : (4096 : Int) < (n : Int) := by omega
    clear hn
    go_enter Tryd.func14, Tryd.ntmps14
    go_wp2_with fail
    go_ret
    exact ⟨rfl, rfl⟩
theorem Append_full (B c p : Nat) (lv sv : Value) (ls ss : List (List Nat)) (w : World) (bp : Option Addr) (n bc : Nat) (h : ChIs B w c p lv sv ls ss) (hn : 1 ≤ n ∧ n ≤ 4096) (hl : 64 ≤ ls.length) :
    Calls Tryd.prog 14 #[.pointer (some ⟨c, 0, none⟩), .slice bp n bc] w fun e w' => e = .returned (.int .i64 33) ∧ w' = w := by
  have HL : Hid (Calls Tryd.prog 16 #[.pointer (some ⟨c, 0, none⟩)] w fun e w' => e = .returned (.int .i64 (ls.length : Int)) ∧ w' = w) := Len_any h
  have q1 : ¬ (n : Int) < 1 := by omega
  have q2 : ¬ (4096 : Int) < (n : Int) := by omega
  have q3 : (64 : Int) ≤ (ls.length : Int) := by omega
  clear h hn hl
  generalize ls.length = m at *
  go_enter Tryd.func14, Tryd.ntmps14
  go_wp2_with fail
  refine HL.out.mono ?_
  rintro e w1 ⟨rfl, hw⟩
  obtain rfl : w = w1 := hw.symm
  go_wp2_with fail
  go_ret
  exact ⟨rfl, rfl⟩
set_option maxHeartbeats 16000000 in
set_option maxRecDepth 20000 in
theorem Append_any (B c p : Nat) (lv sv : Value) (ls ss : List (List Nat)) (w : World) (bp : Option Addr) (bn bc : Nat) (b l r : List Nat) (bs : List Nat) (I : World → Prop) (h : ChIs B w c p lv sv ls ss) (hB : B ≤ w.heap.size) (hb : By B w (.slice bp bn bc) b) (hbn : 1 ≤ bn ∧ bn ≤ 4096) (hls : ls.length < 64) (hl : ss[ls.length]? = some l) (hm : ss.length ≤ 1000)
    (hr : ∀ x ∈ r, x < 256)
    (hsum : ∀ w1 g a1 a2, Src w1 a1 l → Src w1 a2 b → w1.cell? ⟨g, 0, none⟩ = some a1 → w1.cell? ⟨g, 1, none⟩ = some a2 → Below w.heap.size w w1 → Calls Tryd.prog 35 #[.pointer (some ⟨p, 0, none⟩), .slice (some ⟨g, 0, none⟩) 2 2] w1 fun e w' => ∃ u, e = .returned u ∧ w'.ownsRow w1.heap.size 5 1 u r.length (ints .u8 r) ∧ I w' ∧ Only bs w1 w')
    (hbs : ∀ y ∈ bs, B ≤ y ∧ y ∉ fp c lv sv ∧ y < w.heap.size ∧ ∀ o, w.heap[y]? = some o → tyOf o ∈ TS)
    (hI : ∀ w1 w2 lv' sv' ls' ss', I w1 → ChIs B w1 c p lv' sv' ls' ss' → Only (fp c lv' sv') w1 w2 → I w2) :
    Calls Tryd.prog 14 #[.pointer (some ⟨c, 0, none⟩), .slice bp bn bc] w fun e w' => e = .returned (.int .i64 0) ∧ ∃ lv' sv', ChIs B w' c p lv' sv' (ls ++ [b]) (ss ++ [r]) ∧ I w' ∧ Only (bs ++ fp c lv sv) w w' ∧ Mv w.heap.size sv sv' ∧ Mv w.heap.size lv lv' := by
  have HL : Hid (∀ w', Below w.heap.size w w' → Calls Tryd.prog 16 #[.pointer (some ⟨c, 0, none⟩)] w' fun e w'' => e = .returned (.int .i64 (ls.length : Int)) ∧ w'' = w') := fun w' hb => Len_any (h.below hb)
  obtain ⟨_, _, c2, _⟩ := h.cells
  obtain ⟨xs, hx⟩ := h.sums
  have hj := get_lt hl
  obtain ⟨g, cc, x, hsv, _, hc, hbx⟩ := hx.at hj
  obtain rfl : ss[ls.length] = l := by rw [List.getElem?_eq_getElem hj] at hl; exact Option.some.inj hl
  rw [hsv] at c2
  have hbl : b.length = bn := by
    obtain ⟨p', c', e, _⟩ := hb.src.slice
    simp only [Value.slice.injEq] at e
    exact e.2.1.symm
  obtain ⟨xp, xc, hxe, _⟩ := hbx.src.slice
  subst hxe
  obtain ⟨ys, hy⟩ := h.links
  obtain ⟨lq, lcap, hle⟩ := hy.slice
  have HAD : Hid (∀ w1, Below w.heap.size w w1 → Calls Tryd.prog 26 #[.pointer (some ⟨c, 0, none⟩), .slice xp ss[ls.length].length xc, .slice bp bn bc] w1 fun e w' => e = .returned (.tuple #[]) ∧ ∃ sv', ChIs B w' c p lv sv' ls (ss ++ [r]) ∧ I w' ∧ Only (bs ++ fp c lv sv) w w' ∧ Mv w.heap.size sv sv' ∧ By B w' (.slice bp bn bc) b) := by
    intro w1 hw1
    have hb1 := hb.below hw1
    refine (addSum_any B c p lv sv ls ss w1 (.slice xp ss[ls.length].length xc) (.slice bp bn bc) ss[ls.length] b r bs I (h.below hw1) (Nat.le_trans hB hw1.size) (hbx.src.below hw1) hb1.src hm hr (fun w2 g2 k1 k2 k3 => hsum w2 g2 _ _ ((hbx.src.below hw1).below k3) (hb1.src.below k3) k1 k2 (hw1.trans (k3.mono hw1.size))) (fun y hy => ⟨(hbs y hy).1, (hbs y hy).2.1, Nat.lt_of_lt_of_le (hbs y hy).2.2.1 hw1.size, fun o ho => (hbs y hy).2.2.2 o (by rw [← hw1.block y (hbs y hy).2.2.1]; exact ho)⟩) (fun w2 w3 k1 k2 k3 => hI w2 w3 _ _ _ _ k1 k2 k3)).mono ?_
    rintro e w2 ⟨rfl, sv', k1, k2, k3, g3, k4, k5⟩
    have hk : Kx TS B w1 w2 := Kx.of_only k3 (Nat.le_trans hB hw1.size) (fun y hy => by
      rcases List.mem_append.1 hy with e | e
      · exact ⟨(hbs y e).1, fun o ho => (hbs y e).2.2.2 o (by rw [← hw1.block y (hbs y e).2.2.1]; exact ho)⟩
      · exact (h.below hw1).fpty y e)
    exact ⟨rfl, sv', k1, k2, (Only.of_below hw1 _).trans k3, ⟨g3, k4, k5.imp id (fun e => Nat.le_trans hw1.size e)⟩, hb1.kx hk (by decide)⟩
  have HB : Hid (B ≤ w.heap.size) := hB
  have HBL : Hid (b.length = bn) := hbl
  have HII : Hid (∀ w1 w2 lv' sv' ls' ss', I w1 → ChIs B w1 c p lv' sv' ls' ss' → Only (fp c lv' sv') w1 w2 → I w2) := hI
  have HLV : Hid (lv = .slice lq ls.length lcap) := hle
  have HBS : Hid (∀ x ∈ b, x < 256) := hb.src.small
  have q1 : ¬ (bn : Int) < 1 := by omega
  have q2 : ¬ (4096 : Int) < (bn : Int) := by omega
  have q3 : ¬ (64 : Int) ≤ (ls.length : Int) := by omega
  have q4 : (0 : Int) ≤ (ls.length : Int) := by omega
  have q5 : (ls.length : Int) < (ss.length : Int) := by omega
  have q6 : ls.length < ss.length := hj
  have HN : Hid (ls.length < 64) := hls
  have HBN : Hid (bn ≤ 4096) := hbn.2
  /- what lies behind the second region -/
  have HX : Hid (∀ w1 sv', ChIs B w1 c p lv sv' ls (ss ++ [r]) → I w1 → Only (bs ++ fp c lv sv) w w1 → Mv w.heap.size sv sv' → By B w1 (.slice bp bn bc) b → ∃ zs, (w1.cell? ⟨c, 1, none⟩ = some (.slice lq ls.length lcap) ∧ (Value.slice lq ls.length lcap).ownBlock ≠ some c ∧ Calls Tryd.prog 28 #[.slice bp bn bc] w1.drew fun e w' => ∃ u, e = .returned u ∧ w'.ownsRow w1.drew.heap.size 5 1 u bn (ints .u8 b) ∧ Below w1.drew.heap.size w1.drew w') ∧
      ∀ w2 u, w2.ownsRow w1.drew.heap.size 5 1 u bn (ints .u8 b) → Below w1.drew.heap.size w1.drew w2 → (w2.cell? ⟨c, 1, none⟩ = some (.slice lq ls.length lcap) ∧ w2.frozen? ⟨c, 1, none⟩ = false ∧ c < w2.heap.size ∧ w2.ownsRow B 23 1 (.slice lq ls.length lcap) ls.length zs ∧ B ≤ w2.heap.size) ∧
        ∀ g cap w3, w3.ownsRow B 23 1 (.slice (some ⟨g, 0, none⟩) (ls.length + 1) cap) (ls.length + 1) (zs ++ [u]) → (w2.alloc (.cells #[u] 23)).grownBy w3 (Value.slice lq ls.length lcap).ownBlock → ((Value.slice lq ls.length lcap).ownBlock = some g ∨ g = w2.heap.size + 1) →
          ∃ lv' sv', ChIs B (w3.setCell ⟨c, 1, none⟩ (.slice (some ⟨g, 0, none⟩) (ls.length + 1) cap)) c p lv' sv' (ls ++ [b]) (ss ++ [r]) ∧ I (w3.setCell ⟨c, 1, none⟩ (.slice (some ⟨g, 0, none⟩) (ls.length + 1) cap)) ∧ Only (bs ++ fp c lv sv) w (w3.setCell ⟨c, 1, none⟩ (.slice (some ⟨g, 0, none⟩) (ls.length + 1) cap)) ∧ Mv w.heap.size sv sv' ∧ Mv w.heap.size lv lv') := by
    intro w1 sv' k1 k2 k3 k4 k5
    obtain ⟨zs, hz⟩ := k1.links
    rw [hle] at hz k1 k3 ⊢
    have d1 := k1.cells.2.1
    refine ⟨zs, ⟨d1, fun e => ?_, ?_⟩, fun w2 u ho hw => ?_⟩
    · obtain ⟨_, cs, h3⟩ := hz.ty c e
      rw [k1.box] at h3
      cases h3
    · have hcl := clone_any (.slice bp bn bc) w1.drew (show Src w1.drew _ _ from k5.src.below (below_drewN 1 _ _)) (by rw [hbl]; omega)
      rw [hbl] at hcl
      exact hcl
    · have hw1 : Below w1.heap.size w1 w2 := (below_drewN 1 w1 _).trans hw
      have c2' := k1.below hw1
      have z2 := hz.below hw1
      have hB2 : B ≤ w2.heap.size := Nat.le_trans hB (Nat.le_trans k3.size hw1.size)
      refine ⟨⟨c2'.cells.2.1, c2'.cells.2.2.2 1, c2'.lt, z2.own, hB2⟩, fun g cap w3 hown hg hat => ?_⟩
      obtain ⟨r1, r2⟩ := c2'.pushL z2 hB2 rfl (By.own (B := B) (base := w1.drew.heap.size) (n := bn) hb.src.small ho) hown hg hat
      have hi2 : I w2 := hI w1 w2 _ _ _ _ k2 k1 (Only.of_below hw1 _)
      have hfs : ∀ y ∈ c :: (Value.slice lq ls.length lcap).ownBlock.toList, y ∈ fp c (.slice lq ls.length lcap) sv' := fun y hy => by
        rcases List.mem_cons.1 hy with e | e
        · exact mem_fp.2 (.inl e)
        · exact mem_fp.2 (.inr (.inl (by simpa using e)))
      have hfs2 : ∀ y ∈ c :: (Value.slice lq ls.length lcap).ownBlock.toList, y ∈ bs ++ fp c (.slice lq ls.length lcap) sv := fun y hy => by
        refine List.mem_append_right _ ?_
        rcases List.mem_cons.1 hy with e | e
        · exact mem_fp.2 (.inl e)
        · exact mem_fp.2 (.inr (.inl (by simpa using e)))
      refine ⟨_, sv', r1, hI w2 _ _ _ _ _ hi2 c2' (r2.more hfs), (k3.trans (Only.of_below hw1 _)).trans (r2.more hfs2), k4, g, rfl, ?_⟩
      rcases hat with e | e
      · exact .inl e
      · have h1 := k3.size
        have h2 := hw1.size
        exact .inr (by omega)
  clear hsum hbs hI h hx hb hbx hy hl hle hbl hB hm hr hbn hls
  obtain ⟨i0, hi0, hz1, hz2, hz0⟩ := info23e
  generalize hll : ss[ls.length].length = xl at *
  clear hll hj
  generalize ls.length = n at *
  have hxn : n + 1 ≤ maxLen := by have := HN.out; unfold maxLen; omega
  have hxb : (n + 1) * 24 ≤ 140737488355328 := by have := HN.out; omega
  generalize ss.length = m at *
  subst hsv
  go_enter Tryd.func14, Tryd.ntmps14
  go_wp2_with fail
  refine (HL.out w (Below.refl _ _)).mono ?_
  rintro e w1 ⟨rfl, hw⟩
  obtain rfl : w = w1 := hw.symm
  go_wp2_with fail
  go_region_law ((first | (refine step_call1 rfl 16 cf16 (.tmp 21) #[32] rfl _ rfl ((HL.out _ (below_drewN 1 w _)).mono ?_); rintro e w9 ⟨rfl, hw9⟩; refine ⟨_, rfl, ?_⟩; subst hw9) | (refine step_call3 rfl 26 cf26 (.tmp 16) (.tmp 24) (.tmp 25) #[32, 23, 23] rfl _ _ _ rfl rfl rfl ((HAD.out _ (below_drewN 1 w _)).mono ?_); rintro e w1 ⟨rfl, sv', k1, k2, k3, k4, k5⟩; refine ⟨_, rfl, ?_⟩)))
  all_goals
    obtain ⟨zs, ⟨f1, f2, HCL⟩, HF0⟩ := HX.out w1 sv' k1 k2 k3 k4 k5
    have HCC : Hid (Calls Tryd.prog 28 #[.slice bp bn bc] w1.drew fun e w' => ∃ u, e = .returned u ∧ w'.ownsRow w1.drew.heap.size 5 1 u bn (ints .u8 b) ∧ Below w1.drew.heap.size w1.drew w') := HCL
    have HF1 : Hid (∀ w2 u, w2.ownsRow w1.drew.heap.size 5 1 u bn (ints .u8 b) → Below w1.drew.heap.size w1.drew w2 → (w2.cell? ⟨c, 1, none⟩ = some (.slice lq n lcap) ∧ w2.frozen? ⟨c, 1, none⟩ = false ∧ c < w2.heap.size ∧ w2.ownsRow B 23 1 (.slice lq n lcap) n zs ∧ B ≤ w2.heap.size) ∧
        ∀ g' cap w3, w3.ownsRow B 23 1 (.slice (some ⟨g', 0, none⟩) (n + 1) cap) (n + 1) (zs ++ [u]) → (w2.alloc (.cells #[u] 23)).grownBy w3 (Value.slice lq n lcap).ownBlock → ((Value.slice lq n lcap).ownBlock = some g' ∨ g' = w2.heap.size + 1) →
          ∃ lv' sv', ChIs B (w3.setCell ⟨c, 1, none⟩ (.slice (some ⟨g', 0, none⟩) (n + 1) cap)) c p lv' sv' (ls ++ [b]) (ss ++ [r]) ∧ I (w3.setCell ⟨c, 1, none⟩ (.slice (some ⟨g', 0, none⟩) (n + 1) cap)) ∧ Only (bs ++ fp c lv (.slice (some ⟨g, 0, none⟩) m cc)) w (w3.setCell ⟨c, 1, none⟩ (.slice (some ⟨g', 0, none⟩) (n + 1) cap)) ∧ Mv w.heap.size (.slice (some ⟨g, 0, none⟩) m cc) sv' ∧ Mv w.heap.size lv lv') := HF0
    have HQ : Hid (∀ (u : Value) (w2 : World), w2.ownsRow w1.drew.heap.size 5 1 u bn (ints .u8 b) → ∃ uq uc, u = Value.slice uq bn uc) := fun u w2 ho => own_slice ho
    clear HCL HF0 HX HAD HL k1 k2 k3 k4 k5 c2 hc
    go_wp2_with fail
    go_region_law ((first | (refine step_call1 rfl 28 cf28 (.tmp 32) #[23] rfl _ rfl (HCC.out.mono ?_); rintro e w2 ⟨u, rfl, ho, hw2⟩; refine ⟨_, rfl, ?_⟩; obtain ⟨uq, uc, rfl⟩ := HQ.out u w2 ho; obtain ⟨⟨e1, e2, e3, e4, e5⟩, HF⟩ := HF1.out w2 _ ho hw2) | (refine step_append_lies _ (by rfl) _ _ _ (by rfl) B 23 i0 _ 1 24 Tryd.underlying22 hi0 hz0 hz1 hz2 rfl (by omega) (.slice lq n lcap) n zs (by rfl) (e4.alloc _) ⟨w2.heap.size, 0, none⟩ 1 1 [.slice uq bn uc] (by rfl) (by rfl) (World.news_of_block (cs := #[.slice uq bn uc]) (t := 23) (fr := (0, 0)) (heap_alloc_new w2 _)) (by simp [Value.oneCell']) (by omega) hxn hxb (by simp; omega) (w2.heap.size + 1) (by simp) ?_; intro gg cap w3 hown2 hgrow hat hlt; have hc2 : w3.cell? ⟨c, 1, none⟩ = some (.slice lq n lcap) := (hgrow.cell_far _ (by simp; omega) (Ne.symm f2)).trans (((below_alloc' w2 _).cell (p := ⟨c, 1, none⟩) e3).trans e1); have hf2 : w3.frozen? ⟨c, 1, none⟩ = false := (hgrow.frozen_far _ (by simp; omega) (Ne.symm f2)).trans ((frozen?_alloc_cells w2 _ _ _).trans e2))))
    all_goals
      have HZ : Hid (∃ lv' sv', ChIs B (w3.setCell ⟨c, 1, none⟩ (.slice (some ⟨gg, 0, none⟩) (n + 1) cap)) c p lv' sv' (ls ++ [b]) (ss ++ [r]) ∧ I (w3.setCell ⟨c, 1, none⟩ (.slice (some ⟨gg, 0, none⟩) (n + 1) cap)) ∧ Only (bs ++ fp c lv (.slice (some ⟨g, 0, none⟩) m cc)) w (w3.setCell ⟨c, 1, none⟩ (.slice (some ⟨gg, 0, none⟩) (n + 1) cap)) ∧ Mv w.heap.size (.slice (some ⟨g, 0, none⟩) m cc) sv' ∧ Mv w.heap.size lv lv') := HF _ _ _ hown2 hgrow hat
      clear HF hown2 hgrow hat
      go_wp2_with fail
      go_ret
      exact ⟨rfl, HZ.out⟩
end Go.Proofs.YtkiohhkmlpgdoaaDoor.S7
