/- The anchor: the document's example. How every statement begins: the frame in its box. -/
import Derived.Test.YtmllecdbedighaaF17Dec
import Derived.Test.YtmllecdbedighaaF17Small
namespace Go.Proofs.Ytmllecdbedighaa.F17
open Go.RowKit C8 E9
/-- The example's frame. -/
def exF : Fr := ⟨2, 1, 3, [], []⟩
theorem ex_right : right exF = true := by decide
theorem ex_len : (bytes exF).length = 26 := by decide
theorem ex_is (w : World) : FrIs w (.agg #[.int .i64 2, .int .i64 1, .int .i64 3, .slice none 0 0, .slice none 0 0]) exF :=
  ⟨none, 0, none, 0, rfl, LkRow.nil _ _, Src.nil _, by decide, by decide⟩
set_option maxHeartbeats 4000000 in
theorem anchor_any (w : World) : Calls Try.prog 9 #[] w fun e w' => e = .returned (.bool true) ∧ Below w.heap.size w w' := by
  have HE : ∀ W, W = w → Calls Try.prog 11 #[.agg #[.int .i64 2, .int .i64 1, .int .i64 3, .slice none 0 0, .slice none 0 0]] W fun e w' => ∃ q c, e = .returned (.tuple #[.slice q 26 c, .int .i64 0]) ∧ Hid (Src w' (.slice q 26 c) (bytes exF)) ∧ Hid (Below w.heap.size w w') := by
    rintro W rfl
    refine (Encode_any exF _ _ (ex_is W)).mono ?_
    rintro e w' ⟨hb, ⟨_, _, v, rfl, ho⟩ | ⟨_, h, _⟩ | ⟨h, _⟩⟩
    · obtain ⟨q, c, rfl⟩ := own_slice ho
      rw [ex_len] at ho
      exact ⟨q, c, by rw [ex_len], Src.own (by decide) ho, hb⟩
    · rw [ex_len] at h
      omega
    · rw [ex_right] at h
      cases h
  have HD : ∀ W q c, Hid (Src W (.slice q 26 c) (bytes exF)) → Hid (Below w.heap.size w W) → Calls Try.prog 15 #[.slice q 26 c] W fun e w' => ∃ x y x2 y2, e = .returned (.tuple #[.agg #[.int .i64 2, .int .i64 1, .int .i64 3, .slice x 0 y, .slice x2 0 y2], .int .i64 0]) ∧ Hid (∀ o, Below w.heap.size w (w'.alloc o)) := fun W q c h1 h2 => by
    refine (Decode_any _ _ W h1.out).mono ?_
    rintro e w' ⟨hb, ⟨h, _⟩ | ⟨_, ⟨F, v, hd, rfl, hn⟩ | ⟨h, _⟩⟩⟩
    · rw [ex_len] at h
      omega
    · rw [dec_own ex_right] at hd
      obtain rfl := Option.some.inj hd
      obtain ⟨x, y, x2, y2, rfl, hA⟩ := hn.is
      have hbw : Below w.heap.size w w' := h2.out.trans (bel_le hb h2.out.size)
      exact ⟨x, y, x2, y2, rfl, fun o => hbw.alloc hbw.size o⟩
    · rw [dec_own ex_right] at h
      cases h
  have HR : ∀ W, Hid (Below w.heap.size w W) → Calls Try.prog 12 #[.agg #[.int .i64 0, .int .i64 0, .int .i64 0, .slice none 0 0, .slice none 0 0]] W fun e w' => e = .returned (.bool false) ∧ Hid (Below w.heap.size w w') := fun W h => (Right_any _ _ W (zero_is W)).mono (by
    rintro e w' ⟨rfl, h2⟩
    exact ⟨rfl, h.out.trans (bel_le h2 h.out.size)⟩)
  generalize bytes exF = bx at *
  go_enter Try.func9, Try.ntmps9
  go_wp2_with (first
    | (go_at_call 11; refine (HE _ rfl).mono ?_; rintro e w1 ⟨q1, c1, rfl, S1, B1⟩)
    | (go_at_call 15; refine (HD _ _ _ S1 B1).mono ?_; rintro e w2 ⟨x, y, x2, y2, rfl, B2⟩)
    | (go_at_call 12; refine (HR _ (B2.out _)).mono ?_; rintro e w3 ⟨rfl, B3⟩))
  go_ret
  exact ⟨rfl, B3.out⟩
/-- A frame in the box that the statement began with. -/
structure St9 (w W : World) (b : Nat) (C : Array Value) : Prop where
  bel : Below w.heap.size w W
  box : W.heap[b]? = some (.cells C 25 (0, 0))
theorem St9.step {w W W' : World} {b : Nat} {C : Array Value} (h : St9 w W b C) (hb : Below W.heap.size W W') : St9 w W' b C :=
  ⟨h.bel.trans (bel_le hb h.bel.size), (hb.block _ (Array.getElem?_eq_some_iff.1 h.box).1).trans h.box⟩
theorem St9.start (w : World) (C : Array Value) : St9 w (w.alloc (.cells C 25)) w.heap.size C := ⟨bel_alloc (Nat.le_refl _) _, heap_alloc_new w _⟩
theorem St9.cells {w W : World} {b : Nat} {x0 x1 x2 x3 x4 : Value} (h : St9 w W b #[x0, x1, x2, x3, x4]) : W.cell? ⟨b, 0, none⟩ = some (x0) ∧ W.cell? ⟨b, 1, none⟩ = some (x1) ∧ W.cell? ⟨b, 2, none⟩ = some (x2) ∧ W.cell? ⟨b, 3, none⟩ = some (x3) ∧ W.cell? ⟨b, 4, none⟩ = some (x4) := by
  refine ⟨?_, ?_, ?_, ?_, ?_⟩ <;> (rw [cell_of_row _ _ _ _ _ _ h.box]; rfl)
end Go.Proofs.Ytmllecdbedighaa.F17
