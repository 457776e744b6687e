/- The walk of CodeOwn. -/
import Derived.Test.YtmllecdbedighaaC8Args
namespace Go.Proofs.Ytmllecdbedighaa.C8
open Go.RowKit
/-- Twice a text. -/
def two (t : List Nat) : List Nat := (Cd.be 2 t.length ++ t) ++ (Cd.be 2 t.length ++ t)
theorem two_length (t : List Nat) : (two t).length = 2 + t.length + (2 + t.length) := by simp [two, Cd.be_length]; omega
theorem two_lt {t : List Nat} (h : ∀ x ∈ t, x < 256) : ∀ x ∈ two t, x < 256 := fun x hx => by
  simp only [two, List.mem_append] at hx
  rcases hx with (h1 | h1) | (h1 | h1)
  · exact Cd.be_lt _ _ x h1
  · exact h x h1
  · exact Cd.be_lt _ _ x h1
  · exact h x h1
theorem val2 {n : Nat} (l : List Nat) (h : n < 65536) : Cd.val ((Cd.be 2 n ++ l).take 2) = n := by
  rw [List.take_append_of_le_length (by rw [Cd.be_length]; omega), List.take_of_length_le (by rw [Cd.be_length]; omega), Cd.val_be, Nat.mod_eq_of_lt h]
theorem drop2 (n : Nat) (l : List Nat) : (Cd.be 2 n ++ l).drop 2 = l := by
  have := List.drop_left (l₁ := Cd.be 2 n) (l₂ := l)
  rwa [Cd.be_length] at this
theorem two_take (t : List Nat) : ((two t).drop 2).take t.length = t := by
  rw [two, List.append_assoc, drop2, List.take_left]
theorem two_drop (t : List Nat) : (two t).drop (2 + t.length) = Cd.be 2 t.length ++ t := by
  have e : 2 + t.length = (Cd.be 2 t.length ++ t).length := by rw [List.length_append, Cd.be_length]
  rw [e, two, List.drop_left]
theorem put_two (xv : Value) (t : List Nat) (w : World) (hs : Src w xv t) (hl : t.length ≤ 500) : Calls Try.prog 33 #[.slice (some ⟨w.heap.size, 0, none⟩) 2 2] (w.alloc (.cells #[.iface 23 xv, .iface 23 xv] 20)) fun e w' => ∃ v, e = .returned (.tuple #[v, .int .i64 0]) ∧ w'.ownsRow (w.heap.size + 1) 5 1 v (two t).length (ints .u8 (two t)) ∧ Below w.heap.size w w' := by
  have h0 := heap_alloc_new w (.cells #[.iface 23 xv, .iface 23 xv] 20)
  have ha : Below w.heap.size w (w.alloc (.cells #[.iface 23 xv, .iface 23 xv] 20)) := (Below.refl _ w).alloc (Nat.le_refl _) _
  have hsz : (w.alloc (.cells #[.iface 23 xv, .iface 23 xv] 20)).heap.size = w.heap.size + 1 := by simp
  have ho : Old (w.alloc (.cells #[.iface 23 xv, .iface 23 xv] 20)).heap.size (w.alloc (.cells #[.iface 23 xv, .iface 23 xv] 20)) xv t := Old.of (hs.below ha)
  refine (Put_any [⟨true, 0, t⟩, ⟨true, 0, t⟩] _ 2 _ (by simp) (fun j hj => ?_)).mono ?_
  · match j, hj with
    | 0, _ => exact ⟨_, _, _, rfl, by simp, by rw [cell_of_row _ _ _ _ _ _ h0]; rfl, hs.small, .inr ⟨rfl, by simp; omega, .inl ⟨xv, rfl, ho⟩⟩⟩
    | 1, _ => exact ⟨_, _, _, rfl, by simp, by rw [cell_of_row _ _ _ _ _ _ h0]; rfl, hs.small, .inr ⟨rfl, by simp; omega, .inl ⟨xv, rfl, ho⟩⟩⟩
  · intro e w' h
    have hw : Cd.wrong ⟨true, 0, t⟩ = 0 := by simp [Cd.wrong]; omega
    obtain ⟨v, rfl, h1, h2⟩ := h.ok (by simp [Cd.err, hw])
    have he : Cd.enc [⟨true, 0, t⟩, ⟨true, 0, t⟩] = two t := by simp [Cd.enc, Cd.one, two]
    rw [he, hsz] at h1
    exact ⟨v, rfl, h1, ha.trans (bel_le h2 (by simp))⟩
/-- A row of bytes that may be set. -/
def Row5 (w : World) (g : Nat) : Prop := ∃ cur, w.heap[g]? = some (.cells cur 5 (0, 0))
theorem RdAt.new' {w : World} {base : Nat} {v : Value} {l : List Nat} (h : w.ownsRow base 5 1 v l.length (ints .u8 l)) (hs : ∀ x ∈ l, x < 256) (hl : l.length ≤ 1000000) (h0 : 0 < l.length) : ∃ g o, base ≤ g ∧ RdAt (w.alloc (.cells #[v, .bool false] 59)) w.heap.size g o l false ∧ Row5 (w.alloc (.cells #[v, .bool false] 59)) g := by
  have hn := heap_alloc_new w (.cells #[v, .bool false] 59)
  obtain ⟨g, c, rfl, h1, h2, h3, h4⟩ := own_cell h h0
  refine ⟨g, 0, h1, ⟨hs, hl, by omega, _, hn, .inr ⟨c, rfl, h3, range_kept h4 (Below.heap_alloc w _ g h2)⟩⟩, ?_⟩
  obtain ⟨_, ⟨e, _⟩ | ⟨g', cap, cur, e, _, hh, _⟩⟩ := h
  · cases e
  · cases e
    exact ⟨cur, (Below.heap_alloc w _ g h2).trans hh⟩
set_option maxHeartbeats 1000000 in
theorem Read_row (sv : Value) (l : List Nat) (w : World) (hs : Src w sv l) (hl : l.length ≤ 900000) (h0 : 0 < l.length) :
    Calls Try.prog 24 #[sv] w fun e w' => ∃ p g o, e = .returned (.pointer (some ⟨p, 0, none⟩)) ∧ RdAt w' p g o l false ∧ Row5 w' g ∧ w.heap.size ≤ p ∧ w.heap.size ≤ g ∧ Below w.heap.size w w' := by
  have HSM : Hid (∀ x ∈ l, x < 256) := hs.small
  have H0 : Hid (0 < l.length) := h0
  have HC : ∀ W, W = w → Calls Try.prog 34 #[sv] W fun e w' => ∃ v, e = .returned v ∧ Hid (w'.ownsRow w.heap.size 5 1 v l.length (ints .u8 l)) ∧ Hid (Below w.heap.size w w') := by
    rintro W rfl
    exact Clone_any sv l W hs hl
  clear hs h0
  go_enter Try.func24, Try.ntmps24
  go_wp2_with (first | (go_at_call 34; refine (HC _ rfl).mono ?_; rintro e w1 ⟨v, rfl, HO, HB⟩; obtain ⟨q, c, rfl⟩ := own_slice HO.out))
  go_ret
  obtain ⟨g, o, h1, h2, h3⟩ := RdAt.new' HO.out HSM.out (by omega) H0.out
  exact ⟨_, g, o, rfl, h2, h3, HB.out.size, h1, HB.out.alloc HB.out.size _⟩
theorem flip8 {a : Nat} (h : a < 256) : ∃ b : Nat, b < 256 ∧ bits .xor .u8 (a : Int) 255 = (b : Int) :=
  ⟨a ^^^ 255, Nat.xor_lt_two_pow (n := 8) h (by decide), u8_xor_nat a 255 h (by decide)⟩
/-- A row of one's own whose bytes are turned. -/
def OwnB (w : World) (base n : Nat) (v : Value) : Prop := ∃ L : List Nat, (∀ x ∈ L, x < 256) ∧ w.ownsRow base 5 1 v n (ints .u8 L)
theorem OwnB.set {w : World} {base g n c i y : Nat} (h : OwnB w base n (.slice (some ⟨g, 0, none⟩) n c)) (hy : y < 256) : OwnB (w.setCell ⟨g, i, none⟩ (.int .u8 (y : Nat))) base n (.slice (some ⟨g, 0, none⟩) n c) := by
  obtain ⟨L, hL, ho⟩ := h
  obtain ⟨h1, ⟨e, _⟩ | ⟨g', cap, cur, e, hb, hh, hn, hm, hs, ht⟩⟩ := ho
  · cases e
  · cases e
    have hset := heap_setCell_same w g i cur 5 (.int .u8 (y : Nat)) hh
    refine ⟨L.set i y, fun x hx => ?_, by simpa [ints] using h1, .inr ⟨g, c, cur.setIfInBounds i (.int .u8 (y : Nat)), rfl, hb, hset, hn, hm, by simpa using hs, ?_⟩⟩
    · rcases List.mem_or_eq_of_mem_set hx with h | h
      · exact hL x h
      · rw [h]; exact hy
    · rw [Array.toList_setIfInBounds, List.take_set, ht]
      simp [ints]
theorem OwnB.at {w : World} {base n : Nat} {v : Value} (h : OwnB w base n v) (i : Nat) (hi : i < n) : ∃ g c a, v = .slice (some ⟨g, 0, none⟩) n c ∧ g < w.heap.size ∧ a < 256 ∧ w.cell? ⟨g, i, none⟩ = some (.int .u8 (a : Nat)) ∧ w.frozen? ⟨g, i, none⟩ = false := by
  obtain ⟨L, hL, ho⟩ := h
  have hl : L.length = n := by have := ho.1; rw [ints_length] at this; omega
  obtain ⟨g, c, rfl, _, hg, _, hr⟩ := own_cell ho (by omega)
  have := hr i _ (ints_get .u8 L i (by omega))
  rw [Nat.zero_add] at this
  refine ⟨g, c, Sp.nth L i, rfl, hg, Sp.nth_lt (by decide) hL i, this, ?_⟩
  obtain ⟨_, ⟨e, _⟩ | ⟨g', cap, cur, e, _, hh, _⟩⟩ := ho
  · cases e
  · cases e
    exact frozen_of_row _ _ _ _ _ hh
theorem OwnB.slice {w : World} {base n : Nat} {v : Value} (h : OwnB w base n v) : ∃ q c, v = .slice q n c := by
  obtain ⟨L, _, ho⟩ := h
  exact own_slice ho
theorem OwnB.lt {w : World} {base n : Nat} {v : Value} (h : OwnB w base n v) : ∀ b, v.ownBlock = some b → base ≤ b ∧ b < w.heap.size := by
  obtain ⟨L, _, ho⟩ := h
  exact fun b hb => ho.lt b hb
theorem OwnB.kept {w w' : World} {base n : Nat} {v : Value} {row : Option Nat} (h : OwnB w base n v) (hg : w.grownBy w' row) (hr : ∀ b, v.ownBlock = some b → row ≠ some b) : OwnB w' base n v := by
  obtain ⟨L, hL, ho⟩ := h
  exact ⟨L, hL, own_only (bs := row.toList) ho (Only.of_grown hg (fun x hx => by rw [hx]; simp)) (fun b hb hm => by simp only [Option.mem_toList] at hm; exact hr b hb hm)⟩
theorem RdAt.grown {w w' : World} {p g o : Nat} {l : List Nat} {bad : Bool} {row : Option Nat} (h : RdAt w p g o l bad) (hg : w.grownBy w' row) (hp : row ≠ some p) (hgg : row ≠ some g) : RdAt w' p g o l bad :=
  h.kept (hg.block p h.lt (fun e => hp e.symm)) (fun hl => hg.block g hl (fun e => hgg e.symm))
theorem Row5.lt {w : World} {g : Nat} (h : Row5 w g) : g < w.heap.size := by
  obtain ⟨cur, h⟩ := h
  exact (Array.getElem?_eq_some_iff.1 h).1
theorem Row5.grown {w w' : World} {g : Nat} {row : Option Nat} (h : Row5 w g) (hg : w.grownBy w' row) (hgg : row ≠ some g) : Row5 w' g := by
  have hl := h.lt
  obtain ⟨cur, h⟩ := h
  exact ⟨cur, (hg.block g hl (fun e => hgg e.symm)).trans h⟩
/-- The bytes from o on, n of them, are turned; what lies behind them stays. -/
def Turned (w w' : World) (g o n : Nat) : Prop :=
  Only [g] w w' ∧ ∃ cur0 cur, w.heap[g]? = some (.cells cur0 5 (0, 0)) ∧ w'.heap[g]? = some (.cells cur 5 (0, 0)) ∧ (∀ i, i < n → ∃ a : Nat, a < 256 ∧ cur[o + i]? = some (.int .u8 (a : Nat))) ∧ ∀ j, o + n ≤ j → cur[j]? = cur0[j]?
theorem Turned.start {w : World} {g o n : Nat} {t : List Nat} (h : Row5 w g) (hs : ∀ x ∈ t, x < 256) (hn : t.length = n) (hr : w.rangeAt g o (ints .u8 t)) : Turned w w g o n := by
  obtain ⟨cur, h⟩ := h
  refine ⟨Only.refl _ _, cur, cur, h, h, fun i hi => ?_, fun _ _ => rfl⟩
  have := hr i _ (ints_get .u8 t i (by omega))
  rw [cell_of_row _ _ _ _ _ _ h] at this
  exact ⟨_, Sp.nth_lt (by decide) hs i, this⟩
theorem Turned.at {w w' : World} {g o n : Nat} (h : Turned w w' g o n) (i : Nat) (hi : i < n) : ∃ a : Nat, a < 256 ∧ w'.cell? ⟨g, o + i, none⟩ = some (.int .u8 (a : Nat)) ∧ w'.frozen? ⟨g, o + i, none⟩ = false := by
  obtain ⟨_, cur0, cur, _, h1, h2, _⟩ := h
  obtain ⟨a, ha, hc⟩ := h2 i hi
  exact ⟨a, ha, by rw [cell_of_row _ _ _ _ _ _ h1]; exact hc, frozen_of_row _ _ _ _ _ h1⟩
theorem Turned.set {w w' : World} {g o n : Nat} (h : Turned w w' g o n) (i y : Nat) (hi : i < n) (hy : y < 256) : Turned w (w'.setCell ⟨g, o + i, none⟩ (.int .u8 (y : Nat))) g o n := by
  obtain ⟨h0, cur0, cur, h1, h2, h3, h4⟩ := h
  refine ⟨h0.trans (Only.setCell _ _ _ (by simp)), cur0, _, h1, heap_setCell_same w' g (o + i) cur 5 (.int .u8 (y : Nat)) h2, fun j hj => ?_, fun j hj => ?_⟩
  · by_cases e : j = i
    · subst e
      obtain ⟨a, _, hc⟩ := h3 j hj
      have hlt := (Array.getElem?_eq_some_iff.1 hc).1
      exact ⟨y, hy, by simp [hlt]⟩
    · obtain ⟨a, ha, hc⟩ := h3 j hj
      exact ⟨a, ha, by rw [Array.getElem?_setIfInBounds_ne (by omega)]; exact hc⟩
  · rw [Array.getElem?_setIfInBounds_ne (by omega)]
    exact h4 j hj
theorem RdAt.turned {w w' : World} {p g o n : Nat} {l : List Nat} {bad : Bool} (h : RdAt w p g (o + n) l bad) (ht : Turned w w' g o n) : RdAt w' p g (o + n) l bad := by
  obtain ⟨k1, k2, k3, sl, k4, k5⟩ := h
  obtain ⟨h0, cur0, cur, h1, h2, _, h4⟩ := ht
  refine ⟨k1, k2, k3, sl, (h0.block p (Array.getElem?_eq_some_iff.1 k4).1 (by simpa using k3)).trans k4, ?_⟩
  rcases k5 with k5 | ⟨c, k5, k6, k7⟩
  · exact .inl k5
  · refine .inr ⟨c, k5, k6, fun j u hu => ?_⟩
    rw [cell_of_row _ _ _ _ _ _ h2, h4 _ (by omega), ← cell_of_row _ _ _ _ _ _ h1]
    exact k7 j u hu
end Go.Proofs.Ytmllecdbedighaa.C8
