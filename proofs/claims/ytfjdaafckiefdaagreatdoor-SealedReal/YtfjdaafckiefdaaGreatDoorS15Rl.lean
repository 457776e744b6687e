/- A real suite in memory, and the contracts of its calls. -/
import Derived.Test.YtfjdaafckiefdaaGreatDoorMgAA
import Derived.Test.YtfjdaafckiefdaaGreatDoorS15Seal
import Derived.Test.YtfjdaafckiefdaaGreatDoorA5Open
import Derived.Test.YtfjdaafckiefdaaGreatDoorS2Mac
namespace Go.Proofs.YtfjdaafckiefdaaGreatDoor.S7
open Go.RowKit
/-- A real suite: its seed, and how many keys were drawn. -/
def RlIs (w : World) (p : Nat) (sv : Value) (n : Nat) : Prop := w.heap[p]? = some (.cells #[sv, .int .i64 (n : Int), .pointer none] 93 (0, 0))
theorem Src.bytesAt {w : World} {v : Value} {l : List Nat} (h : Src w v l) : S2.BytesAt w v l := by
  obtain ⟨hs, ⟨rfl, rfl⟩ | ⟨ad, c, rfl, rfl⟩ | ⟨b, o, c, rfl, hc, hr⟩⟩ := h
  · exact ⟨hs, .inl ⟨_, _, rfl, rfl⟩⟩
  · exact ⟨hs, .inl ⟨_, _, rfl, rfl⟩⟩
  · exact ⟨hs, .inr ⟨b, o, c, rfl, hc, hr⟩⟩
theorem tab_only {w w' : World} {bs : List Nat} (h : S2.Tab w) (ho : Only bs w w') (h0 : 0 ∉ bs) : S2.Tab w' := fun i hi => by
  have h1 := h i hi
  rw [World.cell?_of_block (a := ⟨0, i, none⟩) (ho.block 0 (World.block_lt_of_cell? w _ h1) h0)]
  exact h1
theorem tab_below {w w' : World} {B : Nat} (h : S2.Tab w) (hb : Below B w w') (h0 : 0 < B) : S2.Tab w' := fun i hi => by
  have h1 := h i hi
  rw [World.cell?_of_block (a := ⟨0, i, none⟩) (hb.block 0 h0)]
  exact h1
theorem tab_lt {w : World} (h : S2.Tab w) : 0 < w.heap.size := World.block_lt_of_cell? w _ (h 0 (by decide))
theorem own_row {w : World} {B g : Nat} {l : List Nat} {n : Nat} (hn : l.length = n) (hm : n ≤ 100000) (hB : B ≤ g) (h : w.heap[g]? = some (.cells (arr .u8 l) 5 (0, 0))) : w.ownsRow B 5 1 (.slice (some ⟨g, 0, none⟩) n n) n (ints .u8 l) :=
  ⟨by rw [ints_length]; omega, .inr ⟨g, n, _, rfl, hB, h, Nat.le_refl _, by unfold maxLen; omega, by rw [arr_size]; omega, by
    rw [arr_list, Nat.mul_one, ← hn, ← ints_length .u8 l]
    exact List.take_length⟩⟩
section
variable {w : World} {p n : Nat} {sv : Value}
theorem RlIs.cells (h : RlIs w p sv n) : w.cell? ⟨p, 0, none⟩ = some sv ∧ w.cell? ⟨p, 1, none⟩ = some (.int .i64 (n : Int)) ∧ w.cell? ⟨p, 2, none⟩ = some (.pointer none) := by
  obtain ⟨h0, h1, h2, _⟩ := cells3 h
  exact ⟨h0, h1, h2⟩
theorem RlIs.only {w' : World} {bs : List Nat} (h : RlIs w p sv n) (ho : Only bs w w') (hp : p ∉ bs) : RlIs w' p sv n := (ho.block p (Array.getElem?_eq_some_iff.1 h).1 hp).trans h
theorem RlIs.below {w' : World} (h : RlIs w p sv n) (hb : Below w.heap.size w w') : RlIs w' p sv n := h.only (Only.of_below hb []) (by simp)
theorem RlIs.lt (h : RlIs w p sv n) : p < w.heap.size := (Array.getElem?_eq_some_iff.1 h).1
end
theorem Src.full {w : World} {v : Value} {l : List Nat} {n : Nat} (h : Src w v l) (hl : l.length = n) (hn : 0 < n) : ∃ b o c, v = .slice (some ⟨b, o, none⟩) n c ∧ n ≤ c ∧ C3.SliceIs w b o l := by
  obtain ⟨hs, ⟨rfl, rfl⟩ | ⟨ad, c, rfl, rfl⟩ | ⟨b, o, c, rfl, hc, hr⟩⟩ := h
  · simp at hl; omega
  · simp at hl; omega
  · subst hl
    exact ⟨b, o, c, rfl, hc, hs, hr⟩
set_option maxHeartbeats 400000 in
theorem Code_real2 (k l1 l2 : List Nat) (kv v u : Value) (g p n : Nat) (sv : Value) (w : World) (h : RlIs w p sv n) (hk : Src w kv k) (hc : w.cell? ⟨g, 0, none⟩ = some v) (hc2 : w.cell? ⟨g, 1, none⟩ = some u) (hv : Src w v l1) (hu : Src w u l2) (hT : S2.Tab w) (hkl : k.length ≤ 50000) (hl : l1.length ≤ 50000) (hl2 : l2.length ≤ 50000) :
    Calls Tryz.prog 106 #[.pointer (some ⟨p, 0, none⟩), kv, .slice (some ⟨g, 0, none⟩) 2 2] w fun e w' => ∃ u, e = .returned u ∧ w'.ownsRow w.heap.size 5 1 u 32 (ints .u8 (S2.Mk.code k (l1 ++ l2))) ∧ Below w.heap.size w w' := by
  obtain ⟨q, c, rfl, _⟩ := hk.slice
  have HC : Hid (Calls Tryz.prog 55 #[.slice q k.length c, .slice (some ⟨g, 0, none⟩) 2 2] w fun e w' => ∃ b, e = .returned (.slice (some ⟨b, 0, none⟩) 32 32) ∧ w.heap.size ≤ b ∧ w'.heap[b]? = some (.cells (arr .u8 (S2.Mk.code k [l1, l2].flatten)) 5 (0, 0)) ∧ Below w.heap.size w w') :=
    S2.code_any k [l1, l2] q k.length c g 0 2 [v, u] w hk.bytesAt hT (by omega)
      (fun j x hx => by
        match j, hx with
        | 0, hx => simp at hx; subst hx; exact hc
        | 1, hx => simp at hx; subst hx; exact hc2
        | j + 2, hx => simp at hx)
      (fun i l' hl' => by
        match i, hl' with
        | 0, hl' => simp at hl'; subst hl'; exact ⟨v, rfl, hv.bytesAt⟩
        | 1, hl' => simp at hl'; subst hl'; exact ⟨u, rfl, hu.bytesAt⟩
        | i + 2, hl' => simp at hl') (by simp) (by simp; omega)
  rw [show [l1, l2].flatten = l1 ++ l2 by simp] at HC
  obtain ⟨d0, d1, d2⟩ := h.cells
  clear h hk hc hc2 hv hu hT hkl hl hl2
  generalize k.length = kl at *
  generalize l1 ++ l2 = l at *
  go_enter Tryz.func106, Tryz.ntmps106
  go_wp2_with fail
  refine HC.out.mono ?_
  rintro e w1 ⟨b, rfl, hb, hr, hbe⟩
  have HO : Hid (w1.ownsRow w.heap.size 5 1 (.slice (some ⟨b, 0, none⟩) 32 32) 32 (ints .u8 (S2.Mk.code k l))) := own_row (S2.Mk.code_length _ _) (by decide) hb hr
  have HB : Hid (Below w.heap.size w w1) := hbe
  clear hb hr hbe HC d0 d1 d2
  go_wp2_with fail
  go_ret
  exact ⟨_, rfl, HO.out, HB.out⟩
set_option maxHeartbeats 400000 in
theorem Seal_real (k nonce lo lt : List Nat) (kv nv ov tv : Value) (p n : Nat) (sv : Value) (w : World) (h : RlIs w p sv n) (hk : Src w kv k) (hn : Src w nv nonce) (ho : Src w ov lo) (ht : Src w tv lt) (hkl : k.length = 32) (hnl : nonce.length = 12) (hol : lo.length ≤ 40000) (htl : lt.length ≤ 40000) :
    Calls Tryz.prog 30 #[.pointer (some ⟨p, 0, none⟩), kv, nv, ov, tv] w fun e w' => ∃ u, e = .returned (.tuple #[u, .int .i64 0]) ∧ w'.ownsRow w.heap.size 5 1 u (lt.length + 16) (ints .u8 (A5.Ae.box k nonce lo lt)) ∧ Below w.heap.size w w' := by
  obtain ⟨bk, ok, ck, rfl, hck, hK⟩ := hk.full hkl (by omega)
  obtain ⟨bn, on, cn, rfl, hcn, hN⟩ := hn.full hnl (by omega)
  have HC : Hid (Calls Tryz.prog 74 #[.slice (some ⟨bk, ok, none⟩) 32 ck, .slice (some ⟨bn, on, none⟩) 12 cn, ov, tv] w fun e w' => ∃ v, e = .returned (.tuple #[v, .int .i64 0]) ∧ w'.ownsRow w.heap.size 5 1 v (lt.length + 16) (ints .u8 (A5.Ae.box k nonce lo lt)) ∧ Below w.heap.size w w') := A5.Seal_ok k nonce lo lt bk ok ck bn on cn ov tv w hkl hnl hK hN hck hcn ho ht hol htl
  obtain ⟨d0, d1, d2⟩ := h.cells
  clear h hk hn ho ht hkl hnl hol htl hck hcn hK hN
  go_enter Tryz.func30, Tryz.ntmps30
  go_wp2_with fail
  refine HC.out.mono ?_
  rintro e w1 ⟨u, rfl, hu, hbe⟩
  have HO : Hid (w1.ownsRow w.heap.size 5 1 u (lt.length + 16) (ints .u8 (A5.Ae.box k nonce lo lt))) := hu
  have HB : Hid (Below w.heap.size w w1) := hbe
  clear hu hbe HC d0 d1 d2
  go_wp2_with fail
  refine bodyPost_ret (results_tmp2 rfl _ _ _) rfl ?_
  exact ⟨_, rfl, HO.out, HB.out⟩
set_option maxHeartbeats 400000 in
theorem Open_real (k nonce lo lt : List Nat) (kv nv ov tv : Value) (p n : Nat) (sv : Value) (w : World) (h : RlIs w p sv n) (hk : Src w kv k) (hn : Src w nv nonce) (ho : Src w ov lo) (ht : Src w tv lt) (hkl : k.length = 32) (hnl : nonce.length = 12) (hol : lo.length ≤ 40000) (htl : lt.length ≤ 40000) (t : List Nat) (hs : A5.Ae.opens k nonce lo lt = some t) :
    Calls Tryz.prog 40 #[.pointer (some ⟨p, 0, none⟩), kv, nv, ov, tv] w fun e w' => ∃ u, e = .returned (.tuple #[u, .int .i64 0]) ∧ w'.ownsRow w.heap.size 5 1 u t.length (ints .u8 t) ∧ Below w.heap.size w w' := by
  obtain ⟨bk, ok, ck, rfl, hck, hK⟩ := hk.full hkl (by omega)
  obtain ⟨bn, on, cn, rfl, hcn, hN⟩ := hn.full hnl (by omega)
  have HC : Hid (Calls Tryz.prog 85 #[.slice (some ⟨bk, ok, none⟩) 32 ck, .slice (some ⟨bn, on, none⟩) 12 cn, ov, tv] w fun e w' => (∃ u, e = .returned (.tuple #[u, .int .i64 0]) ∧ w'.ownsRow w.heap.size 5 1 u t.length (ints .u8 t)) ∧ Below w.heap.size w w') := by
    have := A5.Open_any k nonce lo lt bk ok ck bn on cn ov tv w hkl hnl hK hN hck hcn ho ht hol htl
    rw [hs] at this
    exact this
  obtain ⟨d0, d1, d2⟩ := h.cells
  clear h hk hn ho ht hkl hnl hol htl hck hcn hK hN hs
  go_enter Tryz.func40, Tryz.ntmps40
  go_wp2_with fail
  refine HC.out.mono ?_
  rintro e w1 ⟨⟨u, rfl, hu⟩, hbe⟩
  have HO : Hid (w1.ownsRow w.heap.size 5 1 u t.length (ints .u8 t)) := hu
  have HB : Hid (Below w.heap.size w w1) := hbe
  clear hu hbe HC d0 d1 d2
  go_wp2_with fail
  refine bodyPost_ret (results_tmp2 rfl _ _ _) rfl ?_
  exact ⟨_, rfl, HO.out, HB.out⟩
end Go.Proofs.YtfjdaafckiefdaaGreatDoor.S7
