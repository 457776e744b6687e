/- A real suite in memory, and the contracts of its calls; chains of a real suite. -/
import Derived.Test.YtkiohhkmlpgdoaaDoorC12Sg
import Derived.Test.YtkiohhkmlpgdoaaDoorS2Mac
namespace Go.Proofs.YtkiohhkmlpgdoaaDoor.S7
open Go.RowKit
/-- A real suite from which no key was drawn. -/
def RlIs (w : World) (p : Nat) : Prop := ∃ sv, w.heap[p]? = some (.cells #[sv, .int .i64 0, .pointer none] 69 (0, 0))
theorem Src.bytesAt {w : World} {v : Value} {l : List Nat} (h : Src w v l) : S2.BytesAt w v l := by
  obtain ⟨hs, ⟨rfl, rfl⟩ | ⟨ad, c, rfl, rfl⟩ | ⟨b, o, c, rfl, hc, hr⟩⟩ := h
  · exact ⟨hs, .inl ⟨_, _, rfl, rfl⟩⟩
  · exact ⟨hs, .inl ⟨_, _, rfl, rfl⟩⟩
  · exact ⟨hs, .inr ⟨b, o, c, rfl, hc, hr⟩⟩
theorem tab_only {w w' : World} {bs : List Nat} (h : S2.Tab w) (ho : Only bs w w') (h0 : 0 ∉ bs) : S2.Tab w' := fun i hi => by
  have h1 := h i hi
  rw [World.cell?_of_block (a := ⟨0, i, none⟩) (ho.block 0 (World.block_lt_of_cell? w _ h1) h0)]
  exact h1
theorem tab_below {w w' : World} {B : Nat} (h : S2.Tab w) (hb : Below B w w') (h0 : 0 < B) : S2.Tab w' := fun i hi => by
  have h1 := h i hi
  rw [World.cell?_of_block (a := ⟨0, i, none⟩) (hb.block 0 h0)]
  exact h1
theorem tab_lt {w : World} (h : S2.Tab w) : 0 < w.heap.size := World.block_lt_of_cell? w _ (h 0 (by decide))
theorem own_row32 {w : World} {B g : Nat} {l : List Nat} {n : Nat} (hn : l.length = n) (hm : n ≤ 100000) (hB : B ≤ g) (h : w.heap[g]? = some (.cells (arr .u8 l) 5 (0, 0))) : w.ownsRow B 5 1 (.slice (some ⟨g, 0, none⟩) n n) n (ints .u8 l) :=
  ⟨by rw [ints_length]; omega, .inr ⟨g, n, _, rfl, hB, h, Nat.le_refl _, by unfold maxLen; omega, by rw [arr_size]; omega, by
    rw [arr_list, Nat.mul_one, ← hn, ← ints_length .u8 l]
    exact List.take_length⟩⟩
/-- A real suite and the table. -/
structure Rs (B : Nat) (w : World) (p : Nat) : Prop where
  su : RlIs w p
  tab : S2.Tab w
  low : B ≤ p
  pos : 0 < B
section
variable {B : Nat} {w w' : World} {p c p' : Nat} {lv sv : Value} {ls ss : List (List Nat)}
theorem Rs.only {bs : List Nat} (h : Rs B w p) (ho : Only bs w w') (hp : p ∉ bs) (h0 : 0 ∉ bs) : Rs B w' p := by
  obtain ⟨v, h1⟩ := h.su
  exact ⟨⟨v, (ho.block p (Array.getElem?_eq_some_iff.1 h1).1 hp).trans h1⟩, tab_only h.tab ho h0, h.low, h.pos⟩
theorem Rs.below (h : Rs B w p) (hb : Below w.heap.size w w') : Rs B w' p := h.only (Only.of_below hb []) (by simp) (by simp)
theorem Rs.ch (h : Rs B w p) (hc : ChIs B w c p' lv sv ls ss) (ho : Only (fp c lv sv) w w') : Rs B w' p := by
  obtain ⟨v, h1⟩ := h.su
  obtain ⟨xs, hx⟩ := hc.links
  obtain ⟨ys, hy⟩ := hc.sums
  refine h.only ho (fun e => ?_) (fun e => ?_)
  · rcases mem_fp.1 e with rfl | e | e
    · rw [hc.box] at h1; cases h1
    · obtain ⟨_, cs, h3⟩ := hx.ty p e
      rw [h3] at h1; cases h1
    · obtain ⟨_, cs, h3⟩ := hy.ty p e
      rw [h3] at h1; cases h1
  · have := (hc.fpty 0 e).1
    have := h.pos
    omega
end
set_option maxHeartbeats 400000 in
theorem Real_nil (w : World) : Calls Tryd.prog 22 #[.slice none 0 0] w fun e w' => ∃ p, e = .returned (.pointer (some ⟨p, 0, none⟩)) ∧ RlIs w' p ∧ Below w.heap.size w w' ∧ w.heap.size ≤ p := by
  have HC : Hid (Calls Tryd.prog 28 #[.slice none 0 0] w fun e w' => ∃ u, e = .returned u ∧ w'.ownsRow w.heap.size 5 1 u 0 (ints .u8 []) ∧ Below w.heap.size w w') := clone_any (l := []) (.slice none 0 0) w ⟨(fun x hx => by cases hx), .inl ⟨rfl, rfl⟩⟩ (by simp)
  go_enter Tryd.func22, Tryd.ntmps22
  go_wp2_with fail
  refine HC.out.mono ?_
  rintro e w1 ⟨u, rfl, hs, hb⟩
  have HB : Hid (Below w.heap.size w w1) := hb
  obtain ⟨q, c, rfl⟩ := own_slice hs
  clear hs hb HC
  go_wp2_with fail
  go_ret
  exact ⟨_, rfl, ⟨_, heap_alloc_new w1 _⟩, HB.out.trans ((below_alloc' _ _).mono HB.out.size), HB.out.size⟩
set_option maxHeartbeats 400000 in
theorem Sum_real (l k : List Nat) (g : Nat) (v u : Value) (p : Nat) (w : World) (h : RlIs w p) (hT : S2.Tab w) (hc : w.cell? ⟨g, 0, none⟩ = some v) (hc2 : w.cell? ⟨g, 1, none⟩ = some u) (hv : Src w v l) (hu : Src w u k) (hl : l.length ≤ 50000) (hk : k.length ≤ 50000) :
    Calls Tryd.prog 35 #[.pointer (some ⟨p, 0, none⟩), .slice (some ⟨g, 0, none⟩) 2 2] w fun e w' => ∃ r, e = .returned r ∧ w'.ownsRow w.heap.size 5 1 r 32 (ints .u8 (S2.Sp.sum (l ++ k))) ∧ Below w.heap.size w w' := by
  have hp : S2.PartsAt w (.slice (some ⟨g, 0, none⟩) 2 2) [l, k] := .inr ⟨g, 0, 2, [v, u], rfl, by simp, fun j x hx => by
    match j, hx with
    | 0, hx => simp at hx; subst hx; exact hc
    | 1, hx => simp at hx; subst hx; exact hc2
    | j + 2, hx => simp at hx, fun i m hm => by
    match i, hm with
    | 0, hm => simp at hm; subst hm; exact ⟨v, rfl, hv.bytesAt⟩
    | 1, hm => simp at hm; subst hm; exact ⟨u, rfl, hu.bytesAt⟩
    | i + 2, hm => simp at hm⟩
  have hf : [l, k].flatten = l ++ k := by simp
  have HC : Hid (Calls Tryd.prog 42 #[.slice (some ⟨g, 0, none⟩) 2 2] w fun e w' => ∃ b, e = .returned (.slice (some ⟨b, 0, none⟩) 32 32) ∧ w.heap.size ≤ b ∧ w'.heap[b]? = some (.cells (arr .u8 (S2.Sp.sum (l ++ k))) 5 (0, 0)) ∧ Below w.heap.size w w') := by
    have := S2.sum_any [l, k] _ w hp hT (by rw [hf, List.length_append]; omega)
    rw [hf] at this
    exact this
  obtain ⟨sv, hb0⟩ := h
  obtain ⟨d0, d1, d2, _⟩ := cells3 hb0
  clear hb0 hT hc hc2 hv hu hl hk hp hf
  go_enter Tryd.func35, Tryd.ntmps35
  go_wp2_with fail
  refine HC.out.mono ?_
  rintro e w1 ⟨b, rfl, hb, hr, hbe⟩
  have HO : Hid (w1.ownsRow w.heap.size 5 1 (.slice (some ⟨b, 0, none⟩) 32 32) 32 (ints .u8 (S2.Sp.sum (l ++ k)))) := own_row32 (S2.sum_length _) (by decide) hb hr
  have HB : Hid (Below w.heap.size w w1) := hbe
  clear hb hr hbe HC d0 d1 d2
  go_wp2_with fail
  go_ret
  exact ⟨_, rfl, HO.out, HB.out⟩
theorem sum_small (m : List Nat) : ∀ x ∈ S2.Sp.sum m, x < 256 := S2.Mk.sum_small m
theorem New_r (B p : Nat) (w : World) (n : Nat) (h : Rs B w p) (hB : B ≤ w.heap.size) (hn : 1 ≤ n ∧ n ≤ 1099511627776) :
    Calls Tryd.prog 12 #[.pointer (some ⟨p, 0, none⟩), .int .i64 (n : Int)] w fun e w' => ∃ c sv, e = .returned (.tuple #[.pointer (some ⟨c, 0, none⟩), .int .i64 0]) ∧ ChIs B w' c p (.slice none 0 0) sv [] [S2.Sp.sum (lock6 ++ first n)] ∧ Rs B w' p ∧ Below w.heap.size w w' := by
  refine (New_any B p w n (S2.Sp.sum (lock6 ++ first n)) [] (fun w' => Rs B w' p) hB hn (sum_small _) (fun w1 g a1 a2 h1 h2 h3 h4 h5 => ?_) (fun y hy => by cases hy) (fun w1 w2 c lv' sv' ls' ss' h1 h2 h3 => h1.ch h2 h3)).mono ?_
  · rw [S2.sum_length]
    have h6 := h.below h5
    refine (Sum_real lock6 (first n) g a1 a2 p w1 h6.su h6.tab h3 h4 h1 h2 (by decide) (by rw [first_length]; omega)).mono ?_
    rintro e w' ⟨r, rfl, k1, k2⟩
    exact ⟨r, rfl, k1, h6.below k2, Only.of_below k2 []⟩
  · rintro e w' ⟨c, sv, rfl, h1, h2, h3, _⟩
    exact ⟨c, sv, rfl, h1, h2, h3.below (Nat.le_refl _) (fun y hy => by cases hy)⟩
theorem Append_r (B c p : Nat) (lv sv : Value) (ls ss : List (List Nat)) (w : World) (bp : Option Addr) (bn bc : Nat) (b l : List Nat) (hs : Rs B w p) (h : ChIs B w c p lv sv ls ss) (hB : B ≤ w.heap.size) (hb : By B w (.slice bp bn bc) b) (hbn : 1 ≤ bn ∧ bn ≤ 4096) (hls : ls.length < 64) (hl : ss[ls.length]? = some l) (hll : l.length ≤ 50000) (hm : ss.length ≤ 1000) :
    Calls Tryd.prog 14 #[.pointer (some ⟨c, 0, none⟩), .slice bp bn bc] w fun e w' => e = .returned (.int .i64 0) ∧ ∃ lv' sv', ChIs B w' c p lv' sv' (ls ++ [b]) (ss ++ [S2.Sp.sum (l ++ b)]) ∧ Rs B w' p ∧ Only (fp c lv sv) w w' := by
  have hbl : b.length ≤ 4096 := by
    obtain ⟨p', c', e, _⟩ := hb.src.slice
    simp only [Value.slice.injEq] at e
    have := e.2.1
    omega
  refine (Append_any B c p lv sv ls ss w bp bn bc b l (S2.Sp.sum (l ++ b)) [] (fun w' => Rs B w' p) h hB hb hbn hls hl hm (sum_small _) (fun w1 g a1 a2 h1 h2 h3 h4 h5 => ?_) (fun y hy => by cases hy) (fun w1 w2 lv' sv' ls' ss' h1 h2 h3 => h1.ch h2 h3)).mono ?_
  · rw [S2.sum_length]
    have h6 := hs.below h5
    refine (Sum_real l b g a1 a2 p w1 h6.su h6.tab h3 h4 h1 h2 hll (by omega)).mono ?_
    rintro e w' ⟨r, rfl, k1, k2⟩
    exact ⟨r, rfl, k1, h6.below k2, Only.of_below k2 []⟩
  · rintro e w' ⟨rfl, lv', sv', h1, h2, h3, _⟩
    exact ⟨rfl, lv', sv', h1, h2, h3⟩
end Go.Proofs.YtkiohhkmlpgdoaaDoor.S7
