/- The anchor's contract: the document's example. -/
import Derived.Test.YtagdlpodpokmmaaGreatDoorR14Sg
namespace Go.Proofs.YtagdlpodpokmmaaGreatDoor.S7
open Go.RowKit
def aL0 : List Su.Thing := [(75, [], [], [], [])]
def aL1 : List Su.Thing := adk aL0 [120] memB 2
def aL2 : List Su.Thing := aL1 ++ [bxT aL0 [120] 2 1 (Su.sign 75 1)]
def aL3 : List Su.Thing := adk aL2 [120] memB 2
def aL4 : List Su.Thing := adk aL3 [120] memB 3
theorem a_one : Su.opens (mk aL2 [120] memB 2) (non 0 1) wraB (Su.box (aL1.length + 1) 32) 0 aL3 = some (Su.sign 75 1) := by decide +kernel
theorem a_two : Su.opens (mk aL3 [120] memB 3) (non 0 1) wraB (Su.box (aL1.length + 1) 32) 0 aL4 = none := by decide +kernel
theorem a_len : aL0.length < 900000 ∧ aL2.length < 900000 ∧ aL3.length < 900000 ∧ aL4.length < 900000 := by decide +kernel
theorem a_shr : Shr aL2 ∧ Shr aL3 := by
  have h1 : Shr aL1 := Shr.adk (fun u hu => by rw [List.mem_singleton.1 hu]; decide) _ _ _ (by decide)
  have h2 : Shr aL2 := h1.snoc (by decide)
  exact ⟨h2, h2.adk _ _ _ (by decide)⟩
theorem a_box : (∀ x ∈ Su.box (aL1.length + 1) 32, x < 256) ∧ (Su.box (aL1.length + 1) 32).length ≤ 60000 := by decide +kernel
theorem a_nw (l : List Nat) : nw (lrn (fun _ => none) 0 l) 17 = 0 := by simp [nw, lrn]
set_option maxHeartbeats 4000000 in
set_option maxRecDepth 10000 in
theorem anchor_any (w : World) : Calls Tryz.prog 4 #[] w fun e w' => e = .returned (.bool true) ∧ Below w.heap.size w w' := by
  obtain ⟨B, hBe⟩ : ∃ B, B = w.heap.size := ⟨_, rfl⟩
  have HBE : Hid (B = w.heap.size) := hBe
  rw [← hBe]
  clear hBe
  go_enter Tryz.func4, Tryz.ntmps4
  go_wp2_with fail
  refine (Signs_sw (B := B) (w := w) (by rw [HBE.out]; exact Nat.le_refl _)).mono ?_
  rintro e w1 ⟨p, q, m, x, rfl, h1, h2⟩
  have G1 : Hid (Sw B w1 p q m x [] ∧ Below B w w1 ∧ B ≤ w1.heap.size) := ⟨h1, by rw [HBE.out]; exact h2, by rw [HBE.out]; exact h2.size⟩
  clear h1 h2
  go_wp2_with fail
  refine (Key_s G1.out.1 (by decide) G1.out.2.2).mono ?_
  rintro e w2 ⟨kv, rfl, h1, h2, h3⟩
  obtain ⟨kq, kc, rfl⟩ := own_slice h1
  have G2 : Hid (Sw B w2 p q m x aL0 ∧ By B w2 (.slice kq 32 kc) (Su.sign 75 1) ∧ Below B w w2 ∧ B ≤ w2.heap.size) := ⟨h2, By.own (Su.sign_lt (by decide) _) h1, G1.out.2.1.trans h3.kx.low, Nat.le_trans G1.out.2.2 h3.size⟩
  clear h1 h2 h3 G1
  have hcv := Lib.run_convert_bytes_const (P := Tryz.prog) w2 22 5 #[.int .u8 120] 1 1 Tryz.underlying22 Tryz.underlying5
  have hb3 : Below w2.heap.size w2 (w2.alloc (.cells #[.int .u8 120] 5 (1, 2))) := below_alloc' w2 _
  have hl3 := lit_by B w2 [120] #[.int .u8 120] (1, 2) rfl (by decide) rfl
  generalize hW3 : w2.alloc (.cells #[.int .u8 120] 5 (1, 2)) = w3 at hcv hb3 hl3
  have G3 : Hid (Sw B w3 p q m x aL0 ∧ By B w3 (.slice kq 32 kc) (Su.sign 75 1) ∧ By B w3 (.slice (some ⟨w2.heap.size, 0, none⟩) 1 1) [120] ∧ Below B w w3 ∧ B ≤ w3.heap.size) := ⟨G2.out.1.below hb3, G2.out.2.1.below hb3, hl3, G2.out.2.2.1.trans (hb3.mono G2.out.2.2.2), Nat.le_trans G2.out.2.2.2 hb3.size⟩
  clear hb3 hl3 hW3 G2
  go_wp2_with fail
  refine (Wrap_s G3.out.1 a_len.1 G3.out.2.2.2.2 G3.out.2.2.1 2 1 (by omega) (by omega) G3.out.2.1 (Su.sign_length _ _)).mono ?_
  rintro e w4 ⟨bv, rfl, ⟨h1, h2⟩, h3⟩
  obtain ⟨bq, bc, rfl⟩ := own_slice h1
  have G4 : Hid (Sw B w4 p q m x aL2 ∧ By B w4 (.slice kq 32 kc) (Su.sign 75 1) ∧ By B w4 (.slice bq 48 bc) (Su.box (aL1.length + 1) 32) ∧ Below B w w4 ∧ B ≤ w4.heap.size) := ⟨h2, G3.out.2.1.kx h3.kx tu5, By.own a_box.1 h1, G3.out.2.2.2.1.trans h3.kx.low, Nat.le_trans G3.out.2.2.2.2 h3.size⟩
  clear h1 h2 h3 G3 hcv
  have hcv := Lib.run_convert_bytes_const (P := Tryz.prog) w4 22 5 #[.int .u8 120] 1 1 Tryz.underlying22 Tryz.underlying5
  have hb5 : Below w4.heap.size w4 (w4.alloc (.cells #[.int .u8 120] 5 (1, 2))) := below_alloc' w4 _
  have hl5 := lit_by B w4 [120] #[.int .u8 120] (1, 2) rfl (by decide) rfl
  generalize hW5 : w4.alloc (.cells #[.int .u8 120] 5 (1, 2)) = w5 at hcv hb5 hl5
  have G5 : Hid (Sw B w5 p q m x aL2 ∧ By B w5 (.slice kq 32 kc) (Su.sign 75 1) ∧ By B w5 (.slice bq 48 bc) (Su.box (aL1.length + 1) 32) ∧ By B w5 (.slice (some ⟨w4.heap.size, 0, none⟩) 1 1) [120] ∧ Below B w w5 ∧ B ≤ w5.heap.size) := ⟨G4.out.1.below hb5, G4.out.2.1.below hb5, G4.out.2.2.1.below hb5, hl5, G4.out.2.2.2.1.trans (hb5.mono G4.out.2.2.2.2), Nat.le_trans G4.out.2.2.2.2 hb5.size⟩
  clear hb5 hl5 hW5 G4
  go_wp2_with fail
  refine (Unwrap_s G5.out.1 a_len.2.1 a_shr.1 G5.out.2.2.2.2.2 G5.out.2.2.2.1 2 1 (by omega) (by omega) G5.out.2.2.1 a_box.2 a_one).mono ?_
  rintro e w6 ⟨h1, h2, h3⟩
  obtain ⟨xv, rfl, hx, hxo⟩ : ∃ v, e = .returned (.tuple #[v, .int .i64 0]) ∧ Src w6 v (Su.sign 75 1) ∧ Nb w5.heap.size w6 v := h1
  obtain ⟨xq, xc, rfl, -⟩ := hx.slice
  have hlt := G5.out.1.su.lt
  have G6 : Hid (Sw B w6 p q m x aL3 ∧ By B w6 (.slice kq 32 kc) (Su.sign 75 1) ∧ By B w6 (.slice bq 48 bc) (Su.box (aL1.length + 1) 32) ∧ Below B w w6 ∧ B ≤ w6.heap.size ∧ Src w6 (.slice xq (Su.sign 75 1).length xc) (Su.sign 75 1) ∧ Off (.slice xq (Su.sign 75 1).length xc) [p, m, x]) := ⟨h2, G5.out.2.1.kx h3.kx tu5, G5.out.2.2.1.kx h3.kx tu5, G5.out.2.2.2.2.1.trans h3.kx.low, Nat.le_trans G5.out.2.2.2.2.2 h3.size, hx, fun b hb hm => by
    have := (hxo b hb).1
    simp only [List.mem_cons, List.not_mem_nil, or_false] at hm
    omega⟩
  clear h2 h3 hx hxo hlt G5 hcv
  have hcv := Lib.run_convert_bytes_const (P := Tryz.prog) w6 22 5 #[.int .u8 120] 1 1 Tryz.underlying22 Tryz.underlying5
  have hb7 : Below w6.heap.size w6 (w6.alloc (.cells #[.int .u8 120] 5 (1, 2))) := below_alloc' w6 _
  have hl7 := lit_by B w6 [120] #[.int .u8 120] (1, 2) rfl (by decide) rfl
  generalize hW7 : w6.alloc (.cells #[.int .u8 120] 5 (1, 2)) = w7 at hcv hb7 hl7
  have G7 : Hid (Sw B w7 p q m x aL3 ∧ By B w7 (.slice kq 32 kc) (Su.sign 75 1) ∧ By B w7 (.slice bq 48 bc) (Su.box (aL1.length + 1) 32) ∧ By B w7 (.slice (some ⟨w6.heap.size, 0, none⟩) 1 1) [120] ∧ Below B w w7 ∧ B ≤ w7.heap.size ∧ Src w7 (.slice xq (Su.sign 75 1).length xc) (Su.sign 75 1) ∧ Off (.slice xq (Su.sign 75 1).length xc) [p, m, x]) := ⟨G6.out.1.below hb7, G6.out.2.1.below hb7, G6.out.2.2.1.below hb7, hl7, G6.out.2.2.2.1.trans (hb7.mono G6.out.2.2.2.2.1), Nat.le_trans G6.out.2.2.2.2.1 hb7.size, G6.out.2.2.2.2.2.1.below hb7, G6.out.2.2.2.2.2.2⟩
  clear hb7 hl7 hW7 G6
  go_wp2_with fail
  refine (Unwrap_s G7.out.1 a_len.2.2.1 a_shr.2 G7.out.2.2.2.2.2.1 G7.out.2.2.2.1 3 1 (by omega) (by omega) G7.out.2.2.1 a_box.2 a_two).mono ?_
  rintro e w8 ⟨h1, h2, h3⟩
  obtain rfl : e = .returned (.tuple #[.slice none 0 0, .int .i64 20]) := h1
  have G8 : Hid (Sw B w8 p q m x aL4 ∧ Below B w w8 ∧ B ≤ w8.heap.size) := ⟨h2, G7.out.2.2.2.2.1.trans h3.kx.low, Nat.le_trans G7.out.2.2.2.2.2.1 h3.size⟩
  have hc1 := conv_src (G7.out.2.2.2.2.2.2.1.only h3.only G7.out.2.2.2.2.2.2.2)
  have hc2 := conv_src (G7.out.2.1.kx h3.kx tu5).src
  clear h2 h3 G7 hcv
  generalize Su.sign 75 1 = sgn at *
  generalize sgn.length = sl at *
  go_wp2_with fail
  refine (New_s G8.out.1 a_len.2.2.2 G8.out.2.2 (By.nil B w8)).mono ?_
  rintro e w9 ⟨r, xs, rfl, h0, h1, h2, h3, h4⟩
  have HN := Newest_any h1
  rw [a_nw] at HN
  have HB9 : Hid (Below B w w9) := G8.out.2.1.trans h4.low
  clear h0 h1 h2 h3 h4 G8 hc1 hc2
  go_wp2_with fail
  refine HN.mono ?_
  rintro e w10 ⟨rfl, hw⟩
  obtain rfl : w9 = w10 := hw.symm
  clear hw HN
  go_wp2_with fail
  go_ret
  exact ⟨rfl, HB9.out⟩
end Go.Proofs.YtagdlpodpokmmaaGreatDoor.S7
