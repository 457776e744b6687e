/- The anchor: the document's example. -/
import Derived.Test.YtiihdpkpgcmioaaE9DecA
import Derived.Test.YtiihdpkpgcmioaaE9Enc
import Derived.Lib.SlBytesConst
namespace Go.Proofs.Ytiihdpkpgcmioaa.E9
open Go.RowKit C8
/-- The example's entry. -/
def exE : En := ⟨2, 1, 1, [97], [], 0, 0, 0, []⟩
theorem ex_right : right exE = true := by decide
theorem ex_len : (bytes exE).length = 21 := by decide
/-- A text of one byte that stands in the program. -/
theorem lit_src (w : World) (x : Nat) (h : x < 256) : Src (w.alloc (.cells #[.int .u8 (x : Int)] 5 (1, 2))) (.slice (some ⟨w.heap.size, 0, none⟩) 1 1) [x] :=
  Src.row (fun y hy => by rw [List.mem_singleton.1 hy]; exact h) (Nat.le_refl 1) (rangeAt_of_row (t := 5) (fr := (1, 2)) (heap_alloc_new w _)) rfl
theorem ex_is (w : World) : EnIs (w.alloc (.cells #[.int .u8 97] 5 (1, 2))) (.agg #[.int .i64 2, .int .i64 1, .int .i64 1, .slice (some ⟨w.heap.size, 0, none⟩) 1 1, .slice none 0 0, .int .i64 0, .int .i64 0, .int .i64 0, .slice none 0 0]) exE :=
  ⟨some ⟨w.heap.size, 0, none⟩, 1, none, 0, none, 0, rfl, lit_src w 97 (by decide), Src.nil _, WrRow.nil _ _, by decide, by decide, by decide⟩
theorem zero_is (w : World) : EnIs w (.agg #[.int .i64 0, .int .i64 0, .int .i64 0, .slice none 0 0, .slice none 0 0, .int .i64 0, .int .i64 0, .int .i64 0, .slice none 0 0]) ⟨0, 0, 0, [], [], 0, 0, 0, []⟩ :=
  ⟨none, 0, none, 0, none, 0, rfl, Src.nil _, Src.nil _, WrRow.nil _ _, by decide, by decide, by decide⟩
theorem lit_a : strB [97] = ⟨#[97]⟩ := by rfl
set_option maxHeartbeats 4000000 in
theorem anchor_any (w : World) : Calls Try.prog 9 #[] w fun e w' => e = .returned (.bool true) ∧ Below w.heap.size w w' := by
  have hcv := Lib.run_convert_bytes_const (P := Try.prog) w 22 5 #[.int .u8 97] 1 1 Try.underlying22 Try.underlying5
  have HE : ∀ W, W = w.alloc (.cells #[.int .u8 97] 5 (1, 2)) → Calls Try.prog 12 #[.agg #[.int .i64 2, .int .i64 1, .int .i64 1, .slice (some ⟨w.heap.size, 0, none⟩) 1 1, .slice none 0 0, .int .i64 0, .int .i64 0, .int .i64 0, .slice none 0 0]] W fun e w' => ∃ q c, e = .returned (.tuple #[.slice q 21 c, .int .i64 0]) ∧ Hid (Src w' (.slice q 21 c) (bytes exE)) ∧ Hid (Below w.heap.size w w') := by
    rintro W rfl
    refine (Encode_any exE _ _ (ex_is w)).mono ?_
    rintro e w' ⟨hb, ⟨_, v, rfl, ho⟩ | ⟨h, _⟩⟩
    · obtain ⟨q, c, rfl⟩ := own_slice ho
      rw [ex_len] at ho
      exact ⟨q, c, by rw [ex_len], Src.own (by decide) ho, (bel_alloc (Nat.le_refl _) _).trans (bel_le hb (by simp))⟩
    · rw [ex_right] at h
      cases h
  have HD : ∀ W q c, Hid (Src W (.slice q 21 c) (bytes exE)) → Hid (Below w.heap.size w W) → Calls Try.prog 15 #[.slice q 21 c] W fun e w' => ∃ np nc vp vc q2 c2, e = .returned (.tuple #[.agg #[.int .i64 2, .int .i64 1, .int .i64 1, .slice np 1 nc, .slice vp 0 vc, .int .i64 0, .int .i64 0, .int .i64 0, .slice q2 0 c2], .int .i64 0]) ∧ (∀ o, (convert 22 9 (.slice np 1 nc)).run Try.prog (w'.alloc o) = .ok (.string ⟨#[97]⟩) (w'.alloc o)) ∧ Hid (∀ o, Below w.heap.size w (w'.alloc o)) := fun W q c h1 h2 => by
    refine (Decode_any _ _ W h1.out (by rw [ex_len]; omega)).mono ?_
    rintro e w' ⟨hb, ⟨E, v, hd, rfl, hn⟩ | ⟨h, _⟩⟩
    · rw [dec_own false ex_right] at hd
      obtain rfl := Option.some.inj hd
      obtain ⟨np, nc, vp, vc, q2, c2, rfl, hA⟩ := hn.is
      have hbw : Below w.heap.size w w' := h2.out.trans (bel_le hb h2.out.size)
      refine ⟨np, nc, vp, vc, q2, c2, rfl, fun o => ?_, fun o => hbw.alloc hbw.size o⟩
      have h3 := conv_src (hA.name.below (bel_alloc (Nat.le_refl _) o))
      rw [show exE.name = [97] from rfl, lit_a] at h3
      exact h3
    · rw [dec_own false ex_right] at h
      cases h
  have HR : ∀ W, Hid (Below w.heap.size w W) → Calls Try.prog 13 #[.agg #[.int .i64 0, .int .i64 0, .int .i64 0, .slice none 0 0, .slice none 0 0, .int .i64 0, .int .i64 0, .int .i64 0, .slice none 0 0]] W fun e w' => e = .returned (.bool false) ∧ Hid (Below w.heap.size w w') := fun W h => (Right_any _ _ W (zero_is W)).mono (by
    rintro e w' ⟨rfl, h2⟩
    exact ⟨rfl, h.out.trans (bel_le h2 h.out.size)⟩)
  generalize bytes exE = bx at *
  go_enter Try.func9, Try.ntmps9
  go_wp2_with (first
    | (go_at_call 12; refine (HE _ rfl).mono ?_; rintro e w1 ⟨q1, c1, rfl, S1, B1⟩)
    | (go_at_call 15; refine (HD _ _ _ S1 B1).mono ?_; rintro e w2 ⟨np, nc, vp, vc, q2, c2, rfl, cv, B2⟩)
    | (go_at_call 13; refine (HR _ (B2.out _)).mono ?_; rintro e w3 ⟨rfl, B3⟩))
  go_ret
  exact ⟨rfl, B3.out⟩
end Go.Proofs.Ytiihdpkpgcmioaa.E9
