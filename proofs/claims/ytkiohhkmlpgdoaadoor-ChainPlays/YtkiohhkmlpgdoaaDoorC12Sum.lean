/- The contract of addSum: whatever the suite's Sum is. -/
import Derived.Test.YtkiohhkmlpgdoaaDoorC12Read
import Derived.Deep.AppendLies
import Derived.Deep.RegionLaw
import Derived.Deep.DrawnRows
namespace Go.Proofs.YtkiohhkmlpgdoaaDoor.S7
open Go.RowKit
attribute [local go_sem] Go.wp_at_zero Go.wp_at_succ
theorem info23e : ∃ i, Tryd.prog.info? 23 = some i ∧ i.size = 1 ∧ i.bytes = 24 ∧ i.zero = some (.slice none 0 0) := info_of (by kernel_rfl)
/-- A call of a function, as one step of a region that draws. -/
theorem step_call1 {P : Program} {ops : Array Oper} {o : Oper} {a : Act} {w : World} {K : Act → World → Prop} {Q : Exit → Act → World → Prop} {E : Prop} (hg : o.guard = none) (f : FuncId) (hcf : ∀ vs w, (callFunc f vs).run P w = .ok (.enter f vs) w) (x0 : Operand) (ts : Array TypeId)
    (hop : o.op = Op.call { callee := Callee.value (Operand.func f), args := #[x0], argTypes := ts }) (v0 : Value) (hv0 : a.eval x0 = v0)
    (h : Calls P f #[v0] w fun e w' => ∃ v, e = .returned v ∧ K (a.put o.dst v) w') :
    if Region.wanted o (yielded ops a.tmps) = true then Oper.wp P o a w K Q else E := by
  have hw : Region.wanted o (yielded ops a.tmps) = true := by simp [Region.wanted, hg]
  rw [if_pos hw]
  have hr : (execOp a.eval o).run P w = .ok (.enter f #[v0]) w := by
    unfold execOp
    simp only [hop]
    have hf : a.eval (.func f) = .func (Fn.func f) #[] #[] := rfl
    generalize a.eval = r at *
    simp [go_sem, hcf, hv0, hf]
  unfold Oper.wp
  rw [hr]
  exact h.mono (by rintro e w' ⟨v, rfl, hk⟩; exact hk)
/-- A call of a function, as one step of a region that draws. -/
theorem step_call2 {P : Program} {ops : Array Oper} {o : Oper} {a : Act} {w : World} {K : Act → World → Prop} {Q : Exit → Act → World → Prop} {E : Prop} (hg : o.guard = none) (f : FuncId) (hcf : ∀ vs w, (callFunc f vs).run P w = .ok (.enter f vs) w) (x0 x1 : Operand) (ts : Array TypeId)
    (hop : o.op = Op.call { callee := Callee.value (Operand.func f), args := #[x0, x1], argTypes := ts }) (v0 v1 : Value) (hv0 : a.eval x0 = v0) (hv1 : a.eval x1 = v1)
    (h : Calls P f #[v0, v1] w fun e w' => ∃ v, e = .returned v ∧ K (a.put o.dst v) w') :
    if Region.wanted o (yielded ops a.tmps) = true then Oper.wp P o a w K Q else E := by
  have hw : Region.wanted o (yielded ops a.tmps) = true := by simp [Region.wanted, hg]
  rw [if_pos hw]
  have hr : (execOp a.eval o).run P w = .ok (.enter f #[v0, v1]) w := by
    unfold execOp
    simp only [hop]
    have hf : a.eval (.func f) = .func (Fn.func f) #[] #[] := rfl
    generalize a.eval = r at *
    simp [go_sem, hcf, hv0, hv1, hf]
  unfold Oper.wp
  rw [hr]
  exact h.mono (by rintro e w' ⟨v, rfl, hk⟩; exact hk)
/-- A call of a function, as one step of a region that draws. -/
theorem step_call3 {P : Program} {ops : Array Oper} {o : Oper} {a : Act} {w : World} {K : Act → World → Prop} {Q : Exit → Act → World → Prop} {E : Prop} (hg : o.guard = none) (f : FuncId) (hcf : ∀ vs w, (callFunc f vs).run P w = .ok (.enter f vs) w) (x0 x1 x2 : Operand) (ts : Array TypeId)
    (hop : o.op = Op.call { callee := Callee.value (Operand.func f), args := #[x0, x1, x2], argTypes := ts }) (v0 v1 v2 : Value) (hv0 : a.eval x0 = v0) (hv1 : a.eval x1 = v1) (hv2 : a.eval x2 = v2)
    (h : Calls P f #[v0, v1, v2] w fun e w' => ∃ v, e = .returned v ∧ K (a.put o.dst v) w') :
    if Region.wanted o (yielded ops a.tmps) = true then Oper.wp P o a w K Q else E := by
  have hw : Region.wanted o (yielded ops a.tmps) = true := by simp [Region.wanted, hg]
  rw [if_pos hw]
  have hr : (execOp a.eval o).run P w = .ok (.enter f #[v0, v1, v2]) w := by
    unfold execOp
    simp only [hop]
    have hf : a.eval (.func f) = .func (Fn.func f) #[] #[] := rfl
    generalize a.eval = r at *
    simp [go_sem, hcf, hv0, hv1, hv2, hf]
  unfold Oper.wp
  rw [hr]
  exact h.mono (by rintro e w' ⟨v, rfl, hk⟩; exact hk)
theorem cf35 (vs : Array Value) (w : World) : (callFunc 35 vs).run Tryd.prog w = .ok (.enter 35 vs) w := by kernel_rfl
/-- What becomes of a row's place: it stays, or is new. -/
def Mv (H : Nat) (v v' : Value) : Prop := ∃ g, v'.ownBlock = some g ∧ (v.ownBlock = some g ∨ H ≤ g)
/-- A chain whose sums have grown by one. -/
theorem ChIs.push {B : Nat} {w w1 w2 : World} {c p : Nat} {lv : Value} {q : Option Addr} {n cap0 : Nat} {ls ss : List (List Nat)} {xs : List Value} {r : List Nat} {u : Value} {g cap : Nat} {bs : List Nat}
    (h : ChIs B w c p lv (.slice q n cap0) ls ss) (hx : RowB B w (.slice q n cap0) xs ss) (hB : B ≤ w.heap.size) (hn : ss.length = n) (ho1 : Only bs w w1) (hbs : ∀ y ∈ bs, B ≤ y ∧ y ∉ fp c lv (.slice q n cap0) ∧ ∀ o, w.heap[y]? = some o → tyOf o ∈ TS)
    (hu : By B w1 u r) (hown : w2.ownsRow B 23 1 (.slice (some ⟨g, 0, none⟩) (n + 1) cap) (n + 1) (xs ++ [u])) (hg : (w1.alloc (.cells #[u] 23)).grownBy w2 (Value.slice q n cap0).ownBlock) (hat : (Value.slice q n cap0).ownBlock = some g ∨ g = w1.heap.size + 1) :
    ChIs B (w2.setCell ⟨c, 2, none⟩ (.slice (some ⟨g, 0, none⟩) (n + 1) cap)) c p lv (.slice (some ⟨g, 0, none⟩) (n + 1) cap) ls (ss ++ [r]) ∧ Only (fp c lv (.slice q n cap0)) w1 (w2.setCell ⟨c, 2, none⟩ (.slice (some ⟨g, 0, none⟩) (n + 1) cap)) ∧ w1.heap.size ≤ w2.heap.size := by
  have hc1 : w1.heap[c]? = w.heap[c]? := ho1.block c h.lt (fun e => (hbs c e).2.1 (by simp [fp]))
  have hk1 : Kx TS B w w1 := Kx.of_only ho1 hB (fun y hy => ⟨(hbs y hy).1, (hbs y hy).2.2⟩)
  have hl1 : ∀ b, lv.ownBlock = some b → w1.heap[b]? = w.heap[b]? := fun b hb => by
    obtain ⟨ys, hy⟩ := h.links
    exact ho1.block b (hy.lt b hb) (fun e => (hbs b e).2.1 (mem_fp.2 (.inr (.inl hb))))
  have hs1 : ∀ b, (Value.slice q n cap0).ownBlock = some b → w1.heap[b]? = w.heap[b]? := fun b hb => ho1.block b (hx.lt b hb) (fun e => (hbs b e).2.1 (mem_fp.2 (.inr (.inr hb))))
  have h1 : ChIs B w1 c p lv (.slice q n cap0) ls ss := h.keep hk1 (by decide) hc1 hl1 hs1
  have hx1 : RowB B w1 (.slice q n cap0) xs ss := hx.keep hk1 (by decide) hs1
  have hB1 : B ≤ w1.heap.size := Nat.le_trans hB ho1.size
  have hba := below_alloc' w1 (.cells #[u] 23)
  have h2 := h1.below hba
  have hx2 := hx1.below hba
  have ho2 : Only (fp c lv (.slice q n cap0)) (w1.alloc (.cells #[u] 23)) w2 := Only.of_grown hg (fun y hy => mem_fp.2 (.inr (.inr hy)))
  have ho3 : Only (fp c lv (.slice q n cap0)) w2 (w2.setCell ⟨c, 2, none⟩ (.slice (some ⟨g, 0, none⟩) (n + 1) cap)) := Only.setCell _ _ _ (by simp [fp])
  have ho : Only (fp c lv (.slice q n cap0)) w1 (w2.setCell ⟨c, 2, none⟩ (.slice (some ⟨g, 0, none⟩) (n + 1) cap)) := ((Only.of_below hba _).trans ho2).trans ho3
  have hk : Kx TS B w1 (w2.setCell ⟨c, 2, none⟩ (.slice (some ⟨g, 0, none⟩) (n + 1) cap)) := Kx.of_only ho hB1 h1.fpty
  have hcs : ∀ b, (Value.slice q n cap0).ownBlock = some b → b ≠ c := fun b hb e => by
    obtain ⟨_, cs, h3⟩ := hx1.ty b hb
    rw [e, h1.box] at h3
    cases h3
  have hc2 : w2.heap[c]? = some (.cells #[.pointer (some ⟨p, 0, none⟩), lv, .slice q n cap0] 73 (0, 0)) := by
    rw [hg.block c (Nat.lt_of_lt_of_le h1.lt hba.size) (fun e => hcs c e.symm rfl)]
    exact h2.box
  have hgc : g ≠ c := by
    rcases hat with e | e
    · exact hcs g e
    · have := h1.lt; omega
  have hk2 : Kx TS B w2 (w2.setCell ⟨c, 2, none⟩ (.slice (some ⟨g, 0, none⟩) (n + 1) cap)) := Kx.of_only (Only.setCell (bs := [c]) w2 ⟨c, 2, none⟩ _ (by simp)) (Nat.le_trans hB1 (Nat.le_trans hba.size hg.size)) (fun y hy => by
    rw [List.mem_singleton.1 hy]
    exact ⟨h.low, fun o ho => by rw [hc2] at ho; cases ho; simp [TS, tyOf]⟩)
  have hown3 : (w2.setCell ⟨c, 2, none⟩ (.slice (some ⟨g, 0, none⟩) (n + 1) cap)).ownsRow B 23 1 (.slice (some ⟨g, 0, none⟩) (n + 1) cap) (ss.length + 1) (xs ++ [u]) := by
    rw [hn]
    exact own_only hown (Only.setCell (bs := [c]) w2 ⟨c, 2, none⟩ _ (by simp)) (Off.at (ad := ⟨g, 0, none⟩) (by simpa using hgc))
  refine ⟨⟨h.low, heap_setCell_same w2 c 2 _ 73 _ hc2, ?_, ⟨_, hx1.push hown3 hk (by decide) (hu.kx hk (by decide))⟩, fun b hb e => ?_⟩, ho, Nat.le_trans hba.size hg.size⟩
  · obtain ⟨ys, hy⟩ := h1.links
    refine ⟨ys, hy.keep hk (by decide) (fun b hb => ?_)⟩
    have hbc : b ≠ c := fun e => by
      obtain ⟨_, cs, h3⟩ := hy.ty b hb
      rw [e, h1.box] at h3
      cases h3
    rw [Below.heap_setCell _ _ _ _ (fun e => hbc e), hg.block b (Nat.lt_of_lt_of_le (hy.lt b hb) hba.size) (fun e => h.ap b hb e.symm)]
    exact hba.block b (hy.lt b hb)
  · cases e
    rcases hat with e | e
    · exact h.ap g hb e
    · obtain ⟨ys, hy⟩ := h1.links
      have := hy.lt g hb
      omega
set_option maxHeartbeats 16000000 in
set_option maxRecDepth 20000 in
theorem addSum_any (B c p : Nat) (lv sv : Value) (ls ss : List (List Nat)) (w : World) (a1 a2 : Value) (la lb r : List Nat) (bs : List Nat) (I : World → Prop) (h : ChIs B w c p lv sv ls ss) (hB : B ≤ w.heap.size) (ha : Src w a1 la) (hb : Src w a2 lb) (hm : ss.length ≤ 1000)
    (hr : ∀ x ∈ r, x < 256)
    (hsum : ∀ w1 g, w1.cell? ⟨g, 0, none⟩ = some a1 → w1.cell? ⟨g, 1, none⟩ = some a2 → Below w.heap.size w w1 → Calls Tryd.prog 35 #[.pointer (some ⟨p, 0, none⟩), .slice (some ⟨g, 0, none⟩) 2 2] w1 fun e w' => ∃ u, e = .returned u ∧ w'.ownsRow w1.heap.size 5 1 u r.length (ints .u8 r) ∧ I w' ∧ Only bs w1 w')
    (hbs : ∀ y ∈ bs, B ≤ y ∧ y ∉ fp c lv sv ∧ y < w.heap.size ∧ ∀ o, w.heap[y]? = some o → tyOf o ∈ TS)
    (hI : ∀ w1 w2, I w1 → ChIs B w1 c p lv sv ls ss → Only (fp c lv sv) w1 w2 → I w2) :
    Calls Tryd.prog 26 #[.pointer (some ⟨c, 0, none⟩), a1, a2] w fun e w' => e = .returned (.tuple #[]) ∧ ∃ sv', ChIs B w' c p lv sv' ls (ss ++ [r]) ∧ I w' ∧ Only (bs ++ fp c lv sv) w w' ∧ Mv w.heap.size sv sv' := by
  obtain ⟨c0, _, c2, cf⟩ := h.cells
  obtain ⟨xs, hx⟩ := h.sums
  obtain ⟨q, cap0, rfl⟩ := hx.slice
  obtain ⟨n, hn⟩ : ∃ n, ss.length = n := ⟨_, rfl⟩
  rw [hn] at h hx c2 hm hbs hI ⊢
  have HN : Hid (ss.length = n) := hn
  clear hn
  have f2 := cf 2
  have lc := h.lt
  obtain ⟨wa, HWA⟩ : ∃ wa, Hid ((w.alloc (.cells #[a1, a2] 23)).drew = wa) := ⟨_, rfl⟩
  have hba : Below w.heap.size w wa := by rw [← HWA.out]; exact (below_alloc' w _).trans (below_drewN 1 _ _)
  have hga : wa.heap[w.heap.size]? = some (.cells #[a1, a2] 23 (0, 0)) := by rw [← HWA.out]; exact heap_alloc_new w _
  have HC := hsum wa w.heap.size (by rw [cell_of_row _ _ _ _ _ _ hga]; rfl) (by rw [cell_of_row _ _ _ _ _ _ hga]; rfl) hba
  have HX : Hid (∀ w1 u, w1.ownsRow wa.heap.size 5 1 u r.length (ints .u8 r) → I w1 → Only bs wa w1 → (w1.cell? ⟨c, 2, none⟩ = some (.slice q n cap0) ∧ w1.frozen? ⟨c, 2, none⟩ = false ∧ c < w1.heap.size ∧ w1.ownsRow B 23 1 (.slice q n cap0) n xs ∧ B ≤ w1.heap.size) ∧
      ∀ g cap w2, w2.ownsRow B 23 1 (.slice (some ⟨g, 0, none⟩) (n + 1) cap) (n + 1) (xs ++ [u]) → (w1.alloc (.cells #[u] 23)).grownBy w2 (Value.slice q n cap0).ownBlock → ((Value.slice q n cap0).ownBlock = some g ∨ g = w1.heap.size + 1) → ∃ sv', ChIs B (w2.setCell ⟨c, 2, none⟩ (.slice (some ⟨g, 0, none⟩) (n + 1) cap)) c p lv sv' ls (ss ++ [r]) ∧ I (w2.setCell ⟨c, 2, none⟩ (.slice (some ⟨g, 0, none⟩) (n + 1) cap)) ∧ Only (bs ++ fp c lv (.slice q n cap0)) w (w2.setCell ⟨c, 2, none⟩ (.slice (some ⟨g, 0, none⟩) (n + 1) cap)) ∧ Mv w.heap.size (.slice q n cap0) sv') := by
    intro w1 u ho hi hon
    have hon' : Only bs w w1 := (Only.of_below hba bs).trans hon
    have hbs' : ∀ y ∈ bs, B ≤ y ∧ y ∉ fp c lv (.slice q n cap0) ∧ ∀ o, w.heap[y]? = some o → tyOf o ∈ TS := fun y hy => ⟨(hbs y hy).1, (hbs y hy).2.1, (hbs y hy).2.2.2⟩
    have hk1 : Kx TS B w w1 := Kx.of_only hon' hB (fun y hy => ⟨(hbs' y hy).1, (hbs' y hy).2.2⟩)
    have hc1 : w1.heap[c]? = w.heap[c]? := hon'.block c h.lt (fun e => (hbs' c e).2.1 (by simp [fp]))
    have hs1 : ∀ b, (Value.slice q n cap0).ownBlock = some b → w1.heap[b]? = w.heap[b]? := fun b hb => hon'.block b (hx.lt b hb) (fun e => (hbs' b e).2.1 (mem_fp.2 (.inr (.inr hb))))
    have hx1 : RowB B w1 (.slice q n cap0) xs ss := hx.keep hk1 (by decide) hs1
    have h1 : ChIs B w1 c p lv (.slice q n cap0) ls ss := h.keep hk1 (by decide) hc1 (fun b hb => by
      obtain ⟨ys, hy⟩ := h.links
      exact hon'.block b (hy.lt b hb) (fun e => (hbs' b e).2.1 (mem_fp.2 (.inr (.inl hb))))) hs1
    obtain ⟨_, _, d2, df⟩ := h1.cells
    refine ⟨⟨d2, df 2, h1.lt, by have := hx1.own; rw [HN.out] at this; exact this, Nat.le_trans hB hon'.size⟩, fun g cap w2 hown hg hat => ?_⟩
    obtain ⟨r1, r2, r3⟩ := h.push hx hB HN.out hon' hbs' (By.own hr ho) hown hg hat
    refine ⟨_, r1, hI w1 _ hi h1 r2, (hon'.more (fun y hy => List.mem_append_left _ hy)).trans (r2.more (fun y hy => List.mem_append_right _ hy)), g, rfl, ?_⟩
    rcases hat with e | e
    · exact .inl e
    · exact .inr (by have := hon'.size; omega)
  have av : (Value.slice q n cap0).ownBlock ≠ some c := fun e => by
    obtain ⟨_, cs, h3⟩ := hx.ty c e
    rw [h.box] at h3
    cases h3
  have hxn : n + 1 ≤ maxLen := by unfold maxLen; omega
  have hxb : (n + 1) * 24 ≤ 140737488355328 := by omega
  obtain ⟨i0, hi0, hz1, hz2, hz0⟩ := info23e
  obtain ⟨pa1, ca1, rfl, _⟩ := ha.slice
  obtain ⟨pa2, ca2, rfl, _⟩ := hb.slice
  have HQ : Hid (∀ (u : Value) (w1 : World), w1.ownsRow wa.heap.size 5 1 u r.length (ints .u8 r) → ∃ uq uc, u = Value.slice uq r.length uc) := fun u w1 ho => own_slice ho
  have HCC : Hid (Calls Tryd.prog 35 #[.pointer (some ⟨p, 0, none⟩), .slice (some ⟨w.heap.size, 0, none⟩) 2 2] wa fun e w' => ∃ u, e = .returned u ∧ w'.ownsRow wa.heap.size 5 1 u r.length (ints .u8 r) ∧ I w' ∧ Only bs wa w') := HC
  rw [← HWA.out] at HCC
  clear hsum hbs hI HC h hx ha hb hba hga cf hr hB hm
  generalize la.length = l1 at *
  generalize lb.length = l2 at *
  generalize r.length = rl at *
  go_enter Tryd.func26, Tryd.ntmps26
  go_wp2_with fail
  go_region_law ((first | (refine step_call2 rfl 35 cf35 (.tmp 14) (.tmp 17) #[26, 22] rfl _ _ rfl rfl (HCC.out.mono ?_); rintro e w1 ⟨u, rfl, ho, hi, hon⟩; refine ⟨_, rfl, ?_⟩; obtain ⟨uq, uc, rfl⟩ := HQ.out u w1 (by rw [← HWA.out]; exact ho); have HXX := HX.out w1 _ (by rw [← HWA.out]; exact ho) hi (by rw [← HWA.out]; exact hon); obtain ⟨⟨e1, e2, e3, e4, e5⟩, HF⟩ := HXX) | (refine step_append_lies _ (by rfl) _ _ _ (by rfl) B 23 i0 _ 1 24 Tryd.underlying22 hi0 hz0 hz1 hz2 rfl (by omega) (.slice q n cap0) n xs (by rfl) (e4.alloc _) ⟨w1.heap.size, 0, none⟩ 1 1 [.slice uq rl uc] (by rfl) (by rfl) (World.news_of_block (cs := #[.slice uq rl uc]) (t := 23) (fr := (0, 0)) (heap_alloc_new w1 _)) (by simp [Value.oneCell']) (by omega) hxn hxb (by simp; omega) (w1.heap.size + 1) (by simp) ?_; intro gg cap w2 hown2 hgrow hat hlt; have hc2 : w2.cell? ⟨c, 2, none⟩ = some (.slice q n cap0) := (hgrow.cell_far _ (by simp; omega) (Ne.symm av)).trans (((below_alloc' w1 _).cell (p := ⟨c, 2, none⟩) e3).trans e1); have hf2 : w2.frozen? ⟨c, 2, none⟩ = false := (hgrow.frozen_far _ (by simp; omega) (Ne.symm av)).trans ((frozen?_alloc_cells w1 _ _ _).trans e2))))
  all_goals
    have HZ : Hid (∃ sv', ChIs B (w2.setCell ⟨c, 2, none⟩ (.slice (some ⟨gg, 0, none⟩) (n + 1) cap)) c p lv sv' ls (ss ++ [r]) ∧ I (w2.setCell ⟨c, 2, none⟩ (.slice (some ⟨gg, 0, none⟩) (n + 1) cap)) ∧ Only (bs ++ fp c lv (.slice q n cap0)) w (w2.setCell ⟨c, 2, none⟩ (.slice (some ⟨gg, 0, none⟩) (n + 1) cap)) ∧ Mv w.heap.size (.slice q n cap0) sv') := HF _ _ _ hown2 hgrow hat
    clear HF hown2 hgrow hat
    go_wp2_with fail
    go_end0
    exact ⟨rfl, HZ.out⟩
end Go.Proofs.YtkiohhkmlpgdoaaDoor.S7
