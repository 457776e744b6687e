/- The anchor's contract: a record that is opened. -/
import Derived.Test.YtfjdaafckiefdaaGreatDoorMgQ
import Derived.Test.YtfjdaafckiefdaaGreatDoorMgE
import Derived.Test.YtfjdaafckiefdaaGreatDoorS15Dec
import Derived.Lib.SlBytesConst
namespace Go.Proofs.YtfjdaafckiefdaaGreatDoor.S15
open Go.RowKit C8 E9
open S7 (Fr Kx By Sw TU Shr)
def aL0 : List S7.Su.Thing := [(75, [], [], [], [])]
def aK : List Nat := S7.Su.sign 75 1
def aE : En := ⟨1, 1, 1, [97], [98], 0, 0, 0, []⟩
def aR : Rec := ⟨1, 0, 1, 1, []⟩
def aL1 : List S7.Su.Thing := endL aL0 [] aK aR aE
def aB : List Nat := boxL aL0 [] aR aE
def aR1 : Rec := aR.with aB
def aL2 : List S7.Su.Thing := sL aL1 [] aR1 (E9.bytes aE)
def aL3 : List S7.Su.Thing := aL2 ++ [(75, [], [], [], [])]
def aK2 : List Nat := S7.Su.sign 75 (aL2.length + 1)
theorem a_right : right aE = true := by decide
theorem a_err : sealErr aR aE 32 = none := by decide
theorem a_box : aB.length = 80 := by decide +kernel
theorem a_one : S7.Su.opens aK (S7.non aR1.writer.toNat aR1.count.toNat) (rfront aR1) aR1.box 0 aL1 = some (plainL aL0 [] aR aE) := by decide +kernel
theorem a_two : S7.Su.opens aK2 (S7.non aR1.writer.toNat aR1.count.toNat) (rfront aR1) aR1.box 0 aL3 = none := by decide +kernel
theorem a_len : aL0.length < 800000 ∧ aL1.length < 800000 ∧ aL2.length < 800000 ∧ aL3.length < 800000 := by decide +kernel
theorem a_shr : Shr aL0 ∧ Shr aL1 ∧ Shr aL3 := by
  have h0 : Shr aL0 := fun u hu => by rw [List.mem_singleton.1 hu]; decide
  have h1 : Shr aL1 := endL_shr h0 [] aK aR a_right
  exact ⟨h0, h1, (sL_shr h1 [] aR1 (by decide +kernel)).snoc (by decide)⟩
theorem a_rr : rright aR1 = true := (seal_right aL0 [] aR a_right (by decide)).1
theorem en_tu {cs : Array Value} {fr : Nat × Nat} : S7.tyOf (.cells cs 49 fr) ∉ TU := show some 49 ∉ TU by decide
theorem rec_tu {cs : Array Value} {fr : Nat × Nat} : S7.tyOf (.cells cs 24 fr) ∉ TU := show some 24 ∉ TU by decide
theorem tu_en : ∀ t ∈ TU, t ∈ some 49 :: TU := by decide
theorem en_sub : ∀ t ∈ ([some 49] : List (Option TypeId)), t ∈ some 49 :: TU := by decide
def KeyV (B : Nat) (v : Value) (w : World) : Prop := ∃ kq kc, v = .slice kq 32 kc ∧ By B w v aK2
def rgA (B p : Nat) (bq : Option Addr) (bc : Nat) : Nat → Value → World → Prop
  | 0 => IsV (.pointer (some ⟨p, 0, none⟩))
  | 1 => IsV (.pointer (some ⟨p, 0, none⟩))
  | 2 => KeyV B
  | 3 => IsV (.agg #[.int .i64 1, .int .i64 0, .int .i64 1, .int .i64 1, .slice bq 80 bc])
  | 4 => IsV (.tuple #[.agg z9, .int .i64 20])
  | 5 => IsV (.tuple #[.agg z9, .int .i64 20])
  | 6 => IsV (.agg z9)
  | 7 => IsV (.int .i64 20)
  | 8 => PtV
  | 9 => fun _ _ => True
  | 10 => IsV (.int .i64 20)
  | _ => fun _ _ => True
theorem rgA_kept (B p : Nat) (bq : Option Addr) (bc : Nat) : ∀ i v w w', rgA B p bq bc i v w → Kx (some 49 :: TU) B w w' → rgA B p bq bc i v w'
  | 0, _, _, _, h, _ => h
  | 1, _, _, _, h, _ => h
  | 2, _, _, _, h, ho => by obtain ⟨kq, kc, h1, h2⟩ := h; exact ⟨kq, kc, h1, h2.kx ho (by decide)⟩
  | 3, _, _, _, h, _ => h
  | 4, _, _, _, h, _ => h
  | 5, _, _, _, h, _ => h
  | 6, _, _, _, h, _ => h
  | 7, _, _, _, h, _ => h
  | 8, _, _, _, h, _ => h
  | 9, _, _, _, h, _ => h
  | 10, _, _, _, h, _ => h
  | _ + 11, _, _, _, _, _ => trivial
theorem alloc9_run {o : Oper} {a' : Act} {w' : World} (ho : o.op = .alloc 49) : (execOp a'.eval o).run Tryz.prog w' = .ok (.value (.pointer (some ⟨w'.heap.size, 0, none⟩))) (w'.alloc (.cells z9 49)) := by
  unfold execOp z9
  simp only [ho]
  simp [go_sem]
theorem frameA {A F : Array Value} (hs : A.size = 62) (h : ∀ t, [8, 9, 33, 34, 35, 36, 37, 38, 39, 40].contains t = false → A.getD t undef = F.getD t undef) : A = #[F.getD 0 undef, F.getD 1 undef, F.getD 2 undef, F.getD 3 undef, F.getD 4 undef, F.getD 5 undef, F.getD 6 undef, F.getD 7 undef, A.getD 8 undef, A.getD 9 undef, F.getD 10 undef, F.getD 11 undef, F.getD 12 undef, F.getD 13 undef, F.getD 14 undef, F.getD 15 undef, F.getD 16 undef, F.getD 17 undef, F.getD 18 undef, F.getD 19 undef, F.getD 20 undef, F.getD 21 undef, F.getD 22 undef, F.getD 23 undef, F.getD 24 undef, F.getD 25 undef, F.getD 26 undef, F.getD 27 undef, F.getD 28 undef, F.getD 29 undef, F.getD 30 undef, F.getD 31 undef, F.getD 32 undef, A.getD 33 undef, A.getD 34 undef, A.getD 35 undef, A.getD 36 undef, A.getD 37 undef, A.getD 38 undef, A.getD 39 undef, A.getD 40 undef, F.getD 41 undef, F.getD 42 undef, F.getD 43 undef, F.getD 44 undef, F.getD 45 undef, F.getD 46 undef, F.getD 47 undef, F.getD 48 undef, F.getD 49 undef, F.getD 50 undef, F.getD 51 undef, F.getD 52 undef, F.getD 53 undef, F.getD 54 undef, F.getD 55 undef, F.getD 56 undef, F.getD 57 undef, F.getD 58 undef, F.getD 59 undef, F.getD 60 undef, F.getD 61 undef] := by
  rw [← h 0 (by decide), ← h 1 (by decide), ← h 2 (by decide), ← h 3 (by decide), ← h 4 (by decide), ← h 5 (by decide), ← h 6 (by decide), ← h 7 (by decide), ← h 10 (by decide), ← h 11 (by decide), ← h 12 (by decide), ← h 13 (by decide), ← h 14 (by decide), ← h 15 (by decide), ← h 16 (by decide), ← h 17 (by decide), ← h 18 (by decide), ← h 19 (by decide), ← h 20 (by decide), ← h 21 (by decide), ← h 22 (by decide), ← h 23 (by decide), ← h 24 (by decide), ← h 25 (by decide), ← h 26 (by decide), ← h 27 (by decide), ← h 28 (by decide), ← h 29 (by decide), ← h 30 (by decide), ← h 31 (by decide), ← h 32 (by decide), ← h 41 (by decide), ← h 42 (by decide), ← h 43 (by decide), ← h 44 (by decide), ← h 45 (by decide), ← h 46 (by decide), ← h 47 (by decide), ← h 48 (by decide), ← h 49 (by decide), ← h 50 (by decide), ← h 51 (by decide), ← h 52 (by decide), ← h 53 (by decide), ← h 54 (by decide), ← h 55 (by decide), ← h 56 (by decide), ← h 57 (by decide), ← h 58 (by decide), ← h 59 (by decide), ← h 60 (by decide), ← h 61 (by decide)]
  refine Array.ext (by simp [hs]) (fun i h1 h2 => ?_)
  have e : A[i] = A.getD i undef := by simp [h1]
  rw [e]
  rw [hs] at h1
  clear e h hs
  match i, h1 with
  | 0, _ => rfl
  | 1, _ => rfl
  | 2, _ => rfl
  | 3, _ => rfl
  | 4, _ => rfl
  | 5, _ => rfl
  | 6, _ => rfl
  | 7, _ => rfl
  | 8, _ => rfl
  | 9, _ => rfl
  | 10, _ => rfl
  | 11, _ => rfl
  | 12, _ => rfl
  | 13, _ => rfl
  | 14, _ => rfl
  | 15, _ => rfl
  | 16, _ => rfl
  | 17, _ => rfl
  | 18, _ => rfl
  | 19, _ => rfl
  | 20, _ => rfl
  | 21, _ => rfl
  | 22, _ => rfl
  | 23, _ => rfl
  | 24, _ => rfl
  | 25, _ => rfl
  | 26, _ => rfl
  | 27, _ => rfl
  | 28, _ => rfl
  | 29, _ => rfl
  | 30, _ => rfl
  | 31, _ => rfl
  | 32, _ => rfl
  | 33, _ => rfl
  | 34, _ => rfl
  | 35, _ => rfl
  | 36, _ => rfl
  | 37, _ => rfl
  | 38, _ => rfl
  | 39, _ => rfl
  | 40, _ => rfl
  | 41, _ => rfl
  | 42, _ => rfl
  | 43, _ => rfl
  | 44, _ => rfl
  | 45, _ => rfl
  | 46, _ => rfl
  | 47, _ => rfl
  | 48, _ => rfl
  | 49, _ => rfl
  | 50, _ => rfl
  | 51, _ => rfl
  | 52, _ => rfl
  | 53, _ => rfl
  | 54, _ => rfl
  | 55, _ => rfl
  | 56, _ => rfl
  | 57, _ => rfl
  | 58, _ => rfl
  | 59, _ => rfl
  | 60, _ => rfl
  | 61, _ => rfl
  | _ + 62, h => exact absurd h (by omega)
theorem a_same : same aE aE = true := (same_iff _ _).2 rfl
set_option maxHeartbeats 8000000 in
set_option maxRecDepth 20000 in
theorem anchor_any (w : World) : Calls Tryz.prog 9 #[] w fun e w' => e = .returned (.bool true) ∧ Below w.heap.size w w' := by
  obtain ⟨B, hBe⟩ : ∃ B, B = w.heap.size := ⟨_, rfl⟩
  have HBE : Hid (B = w.heap.size) := hBe
  rw [← hBe]
  clear hBe
  have k32 : aK.length = 32 := S7.Su.sign_length _ _
  go_enter Tryz.func9, Tryz.ntmps9
  go_wp2_with fail
  refine (S7.Signs_sw (B := B) (w := w) (by rw [HBE.out]; exact Nat.le_refl _)).mono ?_
  rintro e w1 ⟨p, q, m, x, rfl, h1, h2⟩
  have G1 : Hid (Sw B w1 p q m x [] ∧ Below B w w1 ∧ B ≤ w1.heap.size) := ⟨h1, by rw [HBE.out]; exact h2, by rw [HBE.out]; exact h2.size⟩
  clear h1 h2
  go_wp2_with fail
  refine (S7.Key_s G1.out.1 (by decide) G1.out.2.2).mono ?_
  rintro e w2 ⟨kv, rfl, h1, h2, h3⟩
  obtain ⟨kq, kc, rfl⟩ := S7.own_slice h1
  have G2 : Hid (Sw B w2 p q m x aL0 ∧ By B w2 (.slice kq 32 kc) aK ∧ Below B w w2 ∧ B ≤ w2.heap.size) := ⟨h2, By.own (S7.Su.sign_lt (by decide) _) h1, G1.out.2.1.trans h3.kx.low, Nat.le_trans G1.out.2.2 h3.size⟩
  clear h1 h2 h3 G1
  have hcv := Lib.run_convert_bytes_const (P := Tryz.prog) w2 22 5 #[.int .u8 97] 1 1 Tryz.underlying22 Tryz.underlying5
  have hb3 := S7.below_alloc' w2 (.cells #[.int .u8 97] 5 (1, 2))
  have hl3 := S7.lit_by B w2 [97] #[.int .u8 97] (1, 2) rfl (by decide) rfl
  generalize hW3 : w2.alloc (.cells #[.int .u8 97] 5 (1, 2)) = w3 at hcv hb3 hl3
  have hcv2 := Lib.run_convert_bytes_const (P := Tryz.prog) w3 22 5 #[.int .u8 98] 1 1 Tryz.underlying22 Tryz.underlying5
  have hb4 := S7.below_alloc' w3 (.cells #[.int .u8 98] 5 (1, 2))
  have hl4 := S7.lit_by B w3 [98] #[.int .u8 98] (1, 2) rfl (by decide) rfl
  generalize hW4 : w3.alloc (.cells #[.int .u8 98] 5 (1, 2)) = w4 at hcv2 hb4 hl4
  have hb34 : Below w2.heap.size w2 w4 := hb3.trans (hb4.mono hb3.size)
  have G4 : Hid (Sw B w4 p q m x aL0 ∧ By B w4 (.slice kq 32 kc) aK ∧ By B w4 (.slice (some ⟨w2.heap.size, 0, none⟩) 1 1) [97] ∧ By B w4 (.slice (some ⟨w3.heap.size, 0, none⟩) 1 1) [98] ∧ Below B w w4 ∧ B ≤ w4.heap.size) := ⟨G2.out.1.below hb34, G2.out.2.1.below hb34, hl3.below hb4, hl4, G2.out.2.2.1.trans (hb34.mono G2.out.2.2.2), Nat.le_trans G2.out.2.2.2 hb34.size⟩
  clear hb3 hb4 hl3 hl4 hb34 G2
  have HS : Hid (Calls Tryz.prog 22 #[(.pointer (some ⟨p, 0, none⟩)), .slice none 0 0, .slice kq 32 kc, .agg #[.int .i64 1, .int .i64 0, .int .i64 1, .int .i64 1, .slice none 0 0], .agg #[.int .i64 1, .int .i64 1, .int .i64 1, .slice (some ⟨w2.heap.size, 0, none⟩) 1 1, .slice (some ⟨w3.heap.size, 0, none⟩) 1 1, .int .i64 0, .int .i64 0, .int .i64 0, .slice none 0 0]] (w4.alloc (.cells #[.int .i64 1, .int .i64 1, .int .i64 1, .slice (some ⟨w2.heap.size, 0, none⟩) 1 1, .slice (some ⟨w3.heap.size, 0, none⟩) 1 1, .int .i64 0, .int .i64 0, .int .i64 0, .slice none 0 0] 49)) fun y w' => ∃ bq bc, y = .returned (.tuple #[.agg #[.int .i64 1, .int .i64 0, .int .i64 1, .int .i64 1, .slice bq 80 bc], .int .i64 0]) ∧ Hid (Sw B w' p q m x aL1 ∧ By B w' (.slice kq 32 kc) aK ∧ By B w' (.slice bq 80 bc) aB ∧ By B w' (.slice (some ⟨w2.heap.size, 0, none⟩) 1 1) [97] ∧ By B w' (.slice (some ⟨w3.heap.size, 0, none⟩) 1 1) [98] ∧ Below B w w' ∧ B ≤ w'.heap.size) ∧ w'.heap[w4.heap.size]? = some (.cells #[.int .i64 1, .int .i64 1, .int .i64 1, .slice (some ⟨w2.heap.size, 0, none⟩) 1 1, .slice (some ⟨w3.heap.size, 0, none⟩) 1 1, .int .i64 0, .int .i64 0, .int .i64 0, .slice none 0 0] 49 (0, 0))) := by
    have hb := S7.below_alloc' w4 (.cells #[.int .i64 1, .int .i64 1, .int .i64 1, .slice (some ⟨w2.heap.size, 0, none⟩) 1 1, .slice (some ⟨w3.heap.size, 0, none⟩) 1 1, .int .i64 0, .int .i64 0, .int .i64 0, .slice none 0 0] 49)
    obtain ⟨g1, g2, g3, g4, g5, g6⟩ := G4.out
    have hB := Nat.le_trans g6 hb.size
    have hE : EnIs (w4.alloc (.cells #[.int .i64 1, .int .i64 1, .int .i64 1, .slice (some ⟨w2.heap.size, 0, none⟩) 1 1, .slice (some ⟨w3.heap.size, 0, none⟩) 1 1, .int .i64 0, .int .i64 0, .int .i64 0, .slice none 0 0] 49)) (.agg #[.int .i64 1, .int .i64 1, .int .i64 1, .slice (some ⟨w2.heap.size, 0, none⟩) 1 1, .slice (some ⟨w3.heap.size, 0, none⟩) 1 1, .int .i64 0, .int .i64 0, .int .i64 0, .slice none 0 0]) aE := en_by (B := B) (g3.below hb) (g4.below hb) (by decide) (by decide)
    have hs := Seal_s (L := aL0) (k := []) (ke := aK) aR none 0 aE (.agg #[.int .i64 1, .int .i64 1, .int .i64 1, .slice (some ⟨w2.heap.size, 0, none⟩) 1 1, .slice (some ⟨w3.heap.size, 0, none⟩) 1 1, .int .i64 0, .int .i64 0, .int .i64 0, .slice none 0 0]) (g1.below hb) a_len.1 hB (By.nil B _) (by rw [k32]; exact g2.below hb) hE
    rw [k32] at hs
    refine hs.mono ?_
    rintro y w' (⟨er, h1, _⟩ | ⟨_, bq, bc, h1, h2, h3, h4⟩)
    · rw [k32, a_err] at h1
      cases h1
    · have e80 : (boxL aL0 [] aR aE).length = 80 := a_box
      have h1' : y = .returned (.tuple #[.agg #[.int .i64 1, .int .i64 0, .int .i64 1, .int .i64 1, .slice bq (boxL aL0 [] aR aE).length bc], .int .i64 0]) := h1
      rw [e80] at h1' h2
      exact ⟨bq, bc, h1', ⟨h3, (g2.below hb).kx h4.kx (by decide), h2, (g3.below hb).kx h4.kx (by decide), (g4.below hb).kx h4.kx (by decide), (g5.trans (hb.mono g6)).trans h4.kx.low, Nat.le_trans hB h4.size⟩, h4.kx.row _ _ (heap_alloc_new w4 _) en_tu⟩
  clear G4
  go_wp2_with fail
  refine HS.out.mono ?_
  rintro y w5 ⟨bq, bc, rfl, h1, h2⟩
  clear HS hcv hcv2
  have HE5 := hid h2
  clear h2
  have G5 := h1
  clear h1
  generalize w2.heap.size = g1 at *
  generalize w3.heap.size = g2 at *
  generalize w4.heap.size = eb at *
  clear hW3 hW4
  have HO : Hid (Calls Tryz.prog 25 #[(.pointer (some ⟨p, 0, none⟩)), .slice none 0 0, .slice kq 32 kc, .agg #[.int .i64 1, .int .i64 0, .int .i64 1, .int .i64 1, .slice bq 80 bc]] (w5.alloc (.cells #[.int .i64 1, .int .i64 0, .int .i64 1, .int .i64 1, .slice bq 80 bc] 24)) fun y w' => ∃ np nc vp vc wq wc, y = .returned (.tuple #[.agg #[.int .i64 1, .int .i64 1, .int .i64 1, .slice np 1 nc, .slice vp 1 vc, .int .i64 0, .int .i64 0, .int .i64 0, .slice wq 0 wc], .int .i64 0]) ∧ Hid (Sw B w' p q m x aL2 ∧ By B w' (.slice bq 80 bc) aB ∧ By B w' (.slice (some ⟨g1, 0, none⟩) 1 1) [97] ∧ By B w' (.slice (some ⟨g2, 0, none⟩) 1 1) [98] ∧ Below B w w' ∧ B ≤ w'.heap.size ∧ w'.heap[eb]? = some (.cells #[.int .i64 1, .int .i64 1, .int .i64 1, .slice (some ⟨g1, 0, none⟩) 1 1, .slice (some ⟨g2, 0, none⟩) 1 1, .int .i64 0, .int .i64 0, .int .i64 0, .slice none 0 0] 49 (0, 0)) ∧ w'.heap[w5.heap.size]? = some (.cells #[.int .i64 1, .int .i64 0, .int .i64 1, .int .i64 1, .slice bq 80 bc] 24 (0, 0)) ∧ EnNew w5.heap.size w' (.agg #[.int .i64 1, .int .i64 1, .int .i64 1, .slice np 1 nc, .slice vp 1 vc, .int .i64 0, .int .i64 0, .int .i64 0, .slice wq 0 wc]) aE ∧ (p < w5.heap.size ∧ m < w5.heap.size ∧ x < w5.heap.size))) := by
    obtain ⟨g1', g2', g3, g4, g5, g6, g7⟩ := G5.out
    have hb := S7.below_alloc' w5 (.cells #[.int .i64 1, .int .i64 0, .int .i64 1, .int .i64 1, .slice bq 80 bc] 24)
    have hB := Nat.le_trans g7 hb.size
    have hbx : aR1.box.length = 80 := a_box
    have hs := Open_s (L := aL1) (k := []) (ke := aK) aR1 bq bc (g1'.below hb) a_len.2.1 a_shr.2.1 hB (By.nil B _) (by rw [k32]; exact g2'.below hb) (by rw [hbx]; exact g3.below hb)
    have e1 : RecV aR1 bq bc = #[.int .i64 1, .int .i64 0, .int .i64 1, .int .i64 1, .slice bq aR1.box.length bc] := rfl
    rw [k32, e1, hbx] at hs
    refine hs.mono ?_
    rintro y w' (⟨h1, _⟩ | ⟨_, h1, _⟩ | ⟨_, _, h3⟩)
    · rw [a_rr] at h1; cases h1
    · exact absurd k32 h1
    · rw [a_one] at h3
      have h4 := open_own aL0 [] [] aK aR a_right [p, m, x] TU B (fun b w' => Sw B w' p q m x (sL aL1 [] aR1 b) ∧ b.length ≤ 4096) _ y w' rfl (by rw [List.append_nil]; exact h3)
      obtain ⟨⟨j1, _⟩, j2, v, rfl, j3⟩ := h4
      obtain ⟨np, nc, vp, vc, wq, wc, rfl, -⟩ := j3.is
      have hlt := g1'.su.lt
      exact ⟨np, nc, vp, vc, wq, wc, rfl, j1, (g3.below hb).kx j2.kx (by decide), (g4.below hb).kx j2.kx (by decide), (g5.below hb).kx j2.kx (by decide), (g6.trans (hb.mono g7)).trans j2.kx.low, Nat.le_trans hB j2.size, j2.kx.row _ _ ((hb.block _ (Array.getElem?_eq_some_iff.1 HE5.out).1).trans HE5.out) en_tu, j2.kx.row _ _ (heap_alloc_new w5 _) rec_tu, fun w2 ha => j3 w2 (agree_mono ha hb.size), hlt.1, hlt.2.2.1, hlt.2.2.2⟩
  clear G5 HE5
  go_wp2_with fail
  refine HO.out.mono ?_
  rintro y w6 ⟨np, nc, vp, vc, wq, wc, rfl, G6⟩
  clear HO
  generalize w5.heap.size = rb at *
  go_upto_region 6 with fail
  have G7 : Hid (Sw B (w6.alloc (.cells #[.int .i64 1, .int .i64 1, .int .i64 1, .slice np 1 nc, .slice vp 1 vc, .int .i64 0, .int .i64 0, .int .i64 0, .slice wq 0 wc] 49)) p q m x aL2 ∧ By B (w6.alloc (.cells #[.int .i64 1, .int .i64 1, .int .i64 1, .slice np 1 nc, .slice vp 1 vc, .int .i64 0, .int .i64 0, .int .i64 0, .slice wq 0 wc] 49)) (.slice bq 80 bc) aB ∧ By B (w6.alloc (.cells #[.int .i64 1, .int .i64 1, .int .i64 1, .slice np 1 nc, .slice vp 1 vc, .int .i64 0, .int .i64 0, .int .i64 0, .slice wq 0 wc] 49)) (.slice (some ⟨g1, 0, none⟩) 1 1) [97] ∧ By B (w6.alloc (.cells #[.int .i64 1, .int .i64 1, .int .i64 1, .slice np 1 nc, .slice vp 1 vc, .int .i64 0, .int .i64 0, .int .i64 0, .slice wq 0 wc] 49)) (.slice (some ⟨g2, 0, none⟩) 1 1) [98] ∧ Below B w (w6.alloc (.cells #[.int .i64 1, .int .i64 1, .int .i64 1, .slice np 1 nc, .slice vp 1 vc, .int .i64 0, .int .i64 0, .int .i64 0, .slice wq 0 wc] 49)) ∧ B ≤ (w6.alloc (.cells #[.int .i64 1, .int .i64 1, .int .i64 1, .slice np 1 nc, .slice vp 1 vc, .int .i64 0, .int .i64 0, .int .i64 0, .slice wq 0 wc] 49)).heap.size ∧ (w6.alloc (.cells #[.int .i64 1, .int .i64 1, .int .i64 1, .slice np 1 nc, .slice vp 1 vc, .int .i64 0, .int .i64 0, .int .i64 0, .slice wq 0 wc] 49)).heap[eb]? = some (.cells #[.int .i64 1, .int .i64 1, .int .i64 1, .slice (some ⟨g1, 0, none⟩) 1 1, .slice (some ⟨g2, 0, none⟩) 1 1, .int .i64 0, .int .i64 0, .int .i64 0, .slice none 0 0] 49 (0, 0)) ∧ (w6.alloc (.cells #[.int .i64 1, .int .i64 1, .int .i64 1, .slice np 1 nc, .slice vp 1 vc, .int .i64 0, .int .i64 0, .int .i64 0, .slice wq 0 wc] 49)).heap[rb]? = some (.cells #[.int .i64 1, .int .i64 0, .int .i64 1, .int .i64 1, .slice bq 80 bc] 24 (0, 0)) ∧ (w6.alloc (.cells #[.int .i64 1, .int .i64 1, .int .i64 1, .slice np 1 nc, .slice vp 1 vc, .int .i64 0, .int .i64 0, .int .i64 0, .slice wq 0 wc] 49)).heap[w6.heap.size]? = some (.cells #[.int .i64 1, .int .i64 1, .int .i64 1, .slice np 1 nc, .slice vp 1 vc, .int .i64 0, .int .i64 0, .int .i64 0, .slice wq 0 wc] 49 (0, 0)) ∧ EnNew rb (w6.alloc (.cells #[.int .i64 1, .int .i64 1, .int .i64 1, .slice np 1 nc, .slice vp 1 vc, .int .i64 0, .int .i64 0, .int .i64 0, .slice wq 0 wc] 49)) (.agg #[.int .i64 1, .int .i64 1, .int .i64 1, .slice np 1 nc, .slice vp 1 vc, .int .i64 0, .int .i64 0, .int .i64 0, .slice wq 0 wc]) aE ∧ p < rb ∧ m < rb ∧ x < rb) := by
    obtain ⟨j1, j2, j3, j4, j5, j6, j7, j8, j9, j10, j11, j12⟩ := G6.out
    have hb := S7.below_alloc' w6 (.cells #[.int .i64 1, .int .i64 1, .int .i64 1, .slice np 1 nc, .slice vp 1 vc, .int .i64 0, .int .i64 0, .int .i64 0, .slice wq 0 wc] 49)
    exact ⟨j1.below hb, j2.below hb, j3.below hb, j4.below hb, j5.trans (hb.mono j6), Nat.le_trans j6 hb.size, (hb.block _ (Array.getElem?_eq_some_iff.1 j7).1).trans j7, (hb.block _ (Array.getElem?_eq_some_iff.1 j8).1).trans j8, heap_alloc_new w6 _, j9.agree (Agree.below hb), j10, j11, j12⟩
  clear G6
  generalize w6.alloc (.cells #[.int .i64 1, .int .i64 1, .int .i64 1, .slice np 1 nc, .slice vp 1 vc, .int .i64 0, .int .i64 0, .int .i64 0, .slice wq 0 wc] 49) = w7 at *
  generalize w6.heap.size = xb at *
  obtain ⟨a0, a1, a2, a3, a4, -⟩ := rec_cells G7.out.2.2.2.2.2.2.2.1
  have HK : Hid (∀ W, Sw B W p q m x aL2 → S7.Only [p, m, x] w7 W → Calls Tryz.prog 18 #[(.pointer (some ⟨p, 0, none⟩))] W fun y w' => ∃ kq2 kc2, y = .returned (.slice kq2 32 kc2) ∧ Sw B w' p q m x aL3 ∧ By B w' (.slice kq2 32 kc2) aK2 ∧ S7.Only [p, m, x] w7 w' ∧ Kx TU B W w') := fun W hsw ho => by
    have hBW := Nat.le_trans G7.out.2.2.2.2.2.1 ho.size
    refine (S7.Key_s hsw (by have := a_len.2.2.1; omega) hBW).mono ?_
    rintro y w' ⟨kv, rfl, h1, h2, h3⟩
    obtain ⟨kq2, kc2, rfl⟩ := S7.own_slice h1
    exact ⟨kq2, kc2, rfl, h2, By.own (S7.Su.sign_lt (by decide) _) h1, ho.trans h3.only, h3.kx⟩
  have HSUB : Hid (∀ W, S7.Only [p, m, x] w7 W → By B W (.slice bq 80 bc) aB ∧ By B W (.slice (some ⟨g1, 0, none⟩) 1 1) [97] ∧ By B W (.slice (some ⟨g2, 0, none⟩) 1 1) [98] ∧ Below B w W ∧ W.heap[eb]? = some (.cells #[.int .i64 1, .int .i64 1, .int .i64 1, .slice (some ⟨g1, 0, none⟩) 1 1, .slice (some ⟨g2, 0, none⟩) 1 1, .int .i64 0, .int .i64 0, .int .i64 0, .slice none 0 0] 49 (0, 0)) ∧ W.heap[rb]? = some (.cells #[.int .i64 1, .int .i64 0, .int .i64 1, .int .i64 1, .slice bq 80 bc] 24 (0, 0)) ∧ W.heap[xb]? = some (.cells #[.int .i64 1, .int .i64 1, .int .i64 1, .slice np 1 nc, .slice vp 1 vc, .int .i64 0, .int .i64 0, .int .i64 0, .slice wq 0 wc] 49 (0, 0)) ∧ EnIs W (.agg #[.int .i64 1, .int .i64 1, .int .i64 1, .slice np 1 nc, .slice vp 1 vc, .int .i64 0, .int .i64 0, .int .i64 0, .slice wq 0 wc]) aE) := fun W ho => by
    obtain ⟨j1, j2, j3, j4, j5, j6, j7, j8, j9, j10, j11, j12, j13⟩ := G7.out
    have hk : Kx TU B w7 W := (j1.fr ho (fun y h => h) j6).kx
    exact ⟨j2.kx hk (by decide), j3.kx hk (by decide), j4.kx hk (by decide), j5.trans hk.low, hk.row _ _ j7 en_tu, hk.row _ _ j8 rec_tu, hk.row _ _ j9 en_tu, (j10.agree (agree_only ho (fun z hz => by simp only [List.mem_cons, List.not_mem_nil, or_false] at hz; omega))).is⟩
  have HO2 : Hid (∀ W kq2 kc2, Sw B W p q m x aL3 → S7.Only [p, m, x] w7 W → By B W (.slice kq2 32 kc2) aK2 → Calls Tryz.prog 25 #[(.pointer (some ⟨p, 0, none⟩)), .slice none 0 0, .slice kq2 32 kc2, .agg #[.int .i64 1, .int .i64 0, .int .i64 1, .int .i64 1, .slice bq 80 bc]] W fun y w' => y = .returned (.tuple #[.agg z9, .int .i64 20]) ∧ Below W.heap.size W w') := fun W kq2 kc2 j1 j3 j2 => by
    have hBW := Nat.le_trans G7.out.2.2.2.2.2.1 j3.size
    have hbx : aR1.box.length = 80 := a_box
    have k322 : aK2.length = 32 := S7.Su.sign_length _ _
    have hs := Open_s (L := aL3) (k := []) (ke := aK2) aR1 bq bc j1 a_len.2.2.2 a_shr.2.2 hBW (By.nil B _) (by rw [k322]; exact j2) (by rw [hbx]; exact (HSUB.out W j3).1)
    have e1 : RecV aR1 bq bc = #[.int .i64 1, .int .i64 0, .int .i64 1, .int .i64 1, .slice bq aR1.box.length bc] := rfl
    rw [k322, e1, hbx] at hs
    refine hs.mono ?_
    rintro y w' (⟨h1, _⟩ | ⟨_, h1, _⟩ | ⟨_, _, h3⟩)
    · rw [a_rr] at h1; cases h1
    · exact absurd k322 h1
    · rw [a_two] at h3
      exact h3
  have HLO : Hid (∀ (w8 : World) (b : Nat) (W W' : World), S7.Only [p, m, x] w7 w8 → Below w8.heap.size w8 W → S7.Only [b] W W' → w7.heap.size ≤ b → S7.Only [p, m, x] w7 W') := fun w8 b W W' h1 h2 h3 h4 => by
    have h := h1.trans (S7.Only.of_below h2 _)
    exact ⟨h3.os.trans h.os, h3.tape.trans h.tape, h3.output.trans h.output, Nat.le_trans h.size h3.size, fun k hk hn => (h3.block k (Nat.lt_of_lt_of_le hk h.size) (by simp; omega)).trans (h.block k hk hn)⟩
  have HAR : Hid (∀ W, Below w7.heap.size w7 W → W.cell? ⟨rb, 0, none⟩ = some (.int .i64 1) ∧ W.cell? ⟨rb, 1, none⟩ = some (.int .i64 0) ∧ W.cell? ⟨rb, 2, none⟩ = some (.int .i64 1) ∧ W.cell? ⟨rb, 3, none⟩ = some (.int .i64 1) ∧ W.cell? ⟨rb, 4, none⟩ = some (.slice bq 80 bc)) := fun W h => by
    obtain ⟨q0, q1, q2, q3, q4, -⟩ := rec_cells (HSUB.out W (S7.Only.of_below h _)).2.2.2.2.2.1
    exact ⟨q0, q1, q2, q3, q4⟩
  have HBS : Hid (B ≤ w7.heap.size) := G7.out.2.2.2.2.2.1
  have HBZ : Hid (∀ W, S7.Only [p, m, x] w7 W → B ≤ W.heap.size) := fun W h => Nat.le_trans HBS.out h.size
  have HSW : Hid (Sw B w7 p q m x aL2) := G7.out.1
  clear G7 HAR
  have hd0 := S7.below_drewN 1 w7 w7.heap.size
  refine wp_region_sa (rgA B p bq bc) (fun u u' => Kx (some 49 :: TU) B u u') (As [2, 4] (fun k W => match k with | 0 => Sw B W p q m x aL2 ∧ S7.Only [p, m, x] w7 W | 1 => Sw B W p q m x aL3 ∧ S7.Only [p, m, x] w7 W | _ => S7.Only [p, m, x] w7 W) w7.heap.size 8 9 8 49 z9 (fun _ _ => True)) (by kernel_rfl) (Kx.of_below hd0 HBS.out) (fun _ _ _ h k => h.trans k) (rgA_kept B p bq bc) (by kernel_rfl) (As.start ⟨HSW.out.below hd0, S7.Only.of_below hd0 _⟩ (Nat.le_refl _)) ?_ ?_
  · intro i o a' w' f hi inv hS hfi hfw hpre
    have hlt : i < 11 := (Array.getElem?_eq_some_iff.1 hi).1
    obtain rfl|rfl|rfl|rfl|rfl|rfl|rfl|rfl|rfl|rfl|rfl : i = 0 ∨ i = 1 ∨ i = 2 ∨ i = 3 ∨ i = 4 ∨ i = 5 ∨ i = 6 ∨ i = 7 ∨ i = 8 ∨ i = 9 ∨ i = 10 := by omega
    · obtain rfl := Option.some.inj hi
      exact as_value _ rfl rfl rfl (Kx.refl _ _ _) (by decide) (by decide) (by decide) (by decide) hS (by show a'.tmps.getD 1 undef = _; rw [inv.old 1 (notDst_spec (by kernel_rfl))]; rfl)
    · obtain rfl := Option.some.inj hi
      exact as_value _ rfl rfl rfl (Kx.refl _ _ _) (by decide) (by decide) (by decide) (by decide) hS (by show a'.tmps.getD 1 undef = _; rw [inv.old 1 (notDst_spec (by kernel_rfl))]; rfl)
    · obtain rfl := Option.some.inj hi
      have h0 : a'.tmps.getD 35 undef = _ := pre_of hpre 1 35 (by kernel_rfl) (by kernel_rfl)
      refine as_call (k := 0) 18 #[a'.tmps.getD 35 undef] rfl rfl (by kernel_rfl) rfl (by decide) hfi (fun c h _ => absurd rfl h) (by decide) (by decide) (by decide) hS (fun hR => ?_)
      rw [h0]
      exact (HK.out w' hR.1 hR.2).mono (by rintro e u ⟨kq2, kc2, rfl, k1, k2, k3, k4⟩; exact ⟨_, rfl, k4.mono tu_en, ⟨k1, k3⟩, k4.low.size, (fun b hb hz => k4.row _ _ hz en_tu), kq2, kc2, rfl, k2⟩)
    · obtain rfl := Option.some.inj hi
      have h0 : a'.tmps.getD 4 undef = (.pointer (some ⟨rb, 0, none⟩)) := by rw [inv.old 4 (notDst_spec (by kernel_rfl))]; rfl
      obtain ⟨kk, _, _, hRk⟩ := hS.seq
      have ho7 : S7.Only [p, m, x] w7 w' := by match kk, hRk with | 0, h => exact h.2 | 1, h => exact h.2 | _ + 2, h => exact h
      exact as_value _ rfl rfl (load_run 24 4 rb (0) _ rfl h0 (ld24r ⟨(HSUB.out w' ho7).2.2.2.2.2.1, rfl⟩)) (Kx.refl _ _ _) (by decide) (by decide) (by decide) (by decide) hS rfl
    · obtain rfl := Option.some.inj hi
      have h0 : a'.tmps.getD 34 undef = _ := pre_of hpre 0 34 (by kernel_rfl) (by kernel_rfl)
      obtain ⟨kq2, kc2, h1, hky⟩ := pre_of hpre 2 36 (by kernel_rfl) (by kernel_rfl)
      have h2 : a'.tmps.getD 37 undef = _ := pre_of hpre 3 37 (by kernel_rfl) (by kernel_rfl)
      refine as_call (k := 1) 25 #[a'.tmps.getD 34 undef, .slice none 0 0, a'.tmps.getD 36 undef, a'.tmps.getD 37 undef] rfl rfl (by kernel_rfl) rfl (by decide) hfi (fun c _ hc => by cases hc; exact been_of hfw 2 (by kernel_rfl)) (by decide) (by decide) (by decide) hS (fun hR => ?_)
      rw [h0, h1, h2]
      rw [h1] at hky
      exact (HO2.out w' kq2 kc2 hR.1 hR.2 hky).mono (by rintro e u ⟨rfl, k1⟩; exact ⟨_, rfl, Kx.of_below k1 (HBZ.out w' hR.2), hR.2.trans (S7.Only.of_below k1 _), k1.size, (fun b hb hz => (k1.block b (Array.getElem?_eq_some_iff.1 hz).1).trans hz), rfl⟩)
    · obtain rfl := Option.some.inj hi
      have h0 := pre_of hpre 4 38 (by kernel_rfl) (by kernel_rfl)
      exact as_value _ rfl rfl rfl (Kx.refl _ _ _) (by decide) (by decide) (by decide) (by decide) hS h0
    · obtain rfl := Option.some.inj hi
      have h0 : a'.tmps.getD 33 undef = _ := pre_of hpre 5 33 (by kernel_rfl) (by kernel_rfl)
      exact as_value _ rfl rfl (ext_run 33 0 _ _ rfl h0 rfl) (Kx.refl _ _ _) (by decide) (by decide) (by decide) (by decide) hS rfl
    · obtain rfl := Option.some.inj hi
      have h0 : a'.tmps.getD 33 undef = _ := pre_of hpre 5 33 (by kernel_rfl) (by kernel_rfl)
      exact as_value _ rfl rfl (ext_run 33 1 _ _ rfl h0 rfl) (Kx.refl _ _ _) (by decide) (by decide) (by decide) (by decide) hS rfl
    · obtain rfl := Option.some.inj hi
      exact as_alloc rfl rfl (alloc9_run rfl) (Kx.of_below (S7.below_alloc' w' _) (Nat.le_trans HBS.out hS.siz)) (by decide) rfl (by decide) hfi rfl (by rw [inv.size]; exact (by decide : 8 < 62)) hS (fun k hR => by match k, hR with | 0, h => exact ⟨h.1.below (S7.below_alloc' w' _), h.2.trans (S7.Only.of_below (S7.below_alloc' w' _) _)⟩ | 1, h => exact ⟨h.1.below (S7.below_alloc' w' _), h.2.trans (S7.Only.of_below (S7.below_alloc' w' _) _)⟩ | _ + 2, h => exact h.trans (S7.Only.of_below (S7.below_alloc' w' _) _)) ⟨_, rfl⟩
    · obtain rfl := Option.some.inj hi
      have h0 : a'.tmps.getD 39 undef = _ := pre_of hpre 6 39 (by kernel_rfl) (by kernel_rfl)
      refine as_store rfl rfl (by decide) rfl hfi (been_of hfw 8 (by kernel_rfl)) (fun c hc => by simp only [List.mem_cons, List.not_mem_nil, or_false] at hc; rcases hc with rfl | rfl <;> exact been_of hfw _ (by kernel_rfl)) rfl hS (fun b k1 k2 k3 k4 => ?_)
      have ho9 := only9s w' b (.int .i64 0) (.int .i64 0) (.int .i64 0) (.slice none 0 0) (.slice none 0 0) (.int .i64 0) (.int .i64 0) (.int .i64 0) (.slice none 0 0)
      have hk9 : Kx [some 49] B w' _ := Kx.of_only ho9 (Nat.le_trans HBS.out hS.siz) (fun y hy => by rw [List.mem_singleton.1 hy]; exact ⟨Nat.le_trans HBS.out k2, fun o ho => by rw [k4] at ho; cases ho; simp [S7.tyOf]⟩)
      exact ⟨_, _, st9_run 8 39 b _ _ _ _ _ _ _ _ _ 0 0 0 0 0 0 none none none 0 0 0 0 0 0 rfl k1 h0 k4, hk9.mono en_sub, by simp [World.setCell], row9 k4 _ _ _ _ _ _ _ _ _, trivial, (fun k hR => by match k, hR with | 0, h => exact ⟨h.1.kx hk9 (by decide) (by decide) (by decide), HLO.out w' b w' _ h.2 (Below.refl _ _) ho9 k2⟩ | 1, h => exact ⟨h.1.kx hk9 (by decide) (by decide) (by decide), HLO.out w' b w' _ h.2 (Below.refl _ _) ho9 k2⟩ | _ + 2, h => exact HLO.out w' b w' _ h (Below.refl _ _) ho9 k2), trivial⟩
    · obtain rfl := Option.some.inj hi
      have h0 : a'.tmps.getD 40 undef = _ := pre_of hpre 7 40 (by kernel_rfl) (by kernel_rfl)
      exact as_value _ rfl rfl rfl (Kx.refl _ _ _) (by decide) (by decide) (by decide) (by decide) hS h0
  intro a' w10 f inv hS hall hd
  have HOX : Hid (S7.Only [p, m, x] w7 w10) := (hS.done (hall 8 (by decide)) (hall 9 (by decide)) (fun c hc => hall c (by simp only [List.mem_cons, List.not_mem_nil, or_false] at hc; show c < 11; omega))).1
  have hk10 := hd 10 9 (by kernel_rfl)
  have hdf : a'.defers = [] := inv.defers
  have hsz : a'.tmps.size = 62 := inv.size
  have e := frameA hsz (fun t ht => inv.old t (dstsIn_spec (ts := [8, 9, 33, 34, 35, 36, 37, 38, 39, 40]) (by kernel_rfl) t ht))
  clear inv hd hsz hall hS
  obtain ⟨tmps, defers⟩ := a'
  obtain rfl : defers = [] := hdf
  replace e : tmps = _ := e
  replace hk10 : tmps.getD 9 undef = .int .i64 20 := hk10
  generalize tmps.getD 8 undef = x8 at *
  generalize tmps.getD 9 undef = x9 at *
  generalize tmps.getD 33 undef = x33 at *
  generalize tmps.getD 34 undef = x34 at *
  generalize tmps.getD 35 undef = x35 at *
  generalize tmps.getD 36 undef = x36 at *
  generalize tmps.getD 37 undef = x37 at *
  generalize tmps.getD 38 undef = x38 at *
  generalize tmps.getD 39 undef = x39 at *
  generalize tmps.getD 40 undef = x40 at *
  simp only [Array.getD_eq_getD_getElem?, List.getElem?_toArray, List.getElem?_cons_succ, List.getElem?_cons_zero, Option.getD_some] at e
  subst e
  subst hk10
  obtain ⟨j1, j2, j3, j4, j5, j6, j7, j8⟩ := HSUB.out _ HOX.out
  obtain ⟨e0, e1, e2, e3, e4, e5, e6, e7, e8⟩ := e9_cells j5
  obtain ⟨f0, f1, f2, f3, f4, f5, f6, f7, f8⟩ := e9_cells j7
  have HSM : Hid (Calls Tryz.prog 41 #[.agg #[.int .i64 1, .int .i64 1, .int .i64 1, .slice np 1 nc, .slice vp 1 vc, .int .i64 0, .int .i64 0, .int .i64 0, .slice wq 0 wc], .agg #[.int .i64 1, .int .i64 1, .int .i64 1, .slice (some ⟨g1, 0, none⟩) 1 1, .slice (some ⟨g2, 0, none⟩) 1 1, .int .i64 0, .int .i64 0, .int .i64 0, .slice none 0 0]] w10 fun y w' => y = .returned (.bool true) ∧ Below B w w' ∧ w'.cell? ⟨rb, 4, none⟩ = some (.slice bq 80 bc)) := by
    refine (Same_any aE aE _ _ w10 j8 (en_by (B := B) j2 j3 (by decide) (by decide))).mono ?_
    rintro y w' ⟨rfl, hb⟩
    refine ⟨by rw [a_same], j4.trans (hb.mono (by have := j4.size; rw [← HBE.out] at this; exact this)), ?_⟩
    exact (rec_cells ((hb.block _ (Array.getElem?_eq_some_iff.1 j6).1).trans j6)).2.2.2.2.1
  clear HK HSUB HO2 HLO HOX j1 j2 j3 j4 j5 j6 j7 j8
  go_wp2_with fail
  refine HSM.out.mono ?_
  rintro y w11 ⟨rfl, hb, q4⟩
  have HB := hid hb
  clear hb HSM
  go_wp2_with fail
  go_ret
  exact ⟨rfl, HB.out⟩
end Go.Proofs.YtfjdaafckiefdaaGreatDoor.S15
