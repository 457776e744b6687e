/- ServerBlind: the walk. -/
import Derived.Test.YtchoiioeeepoaaaV19Rg
namespace Go.Proofs.Ytchoiioeeepoaaa.V19
open Go.RowKit C8 E9 F17
theorem bat_whole {c i : Int} {ls : Ls} (h : (F17.bytes ⟨3, c, i, ls, []⟩).length ≤ 32768) (h8 : ls.length ≤ 8) : bat c i ls = F17.bytes ⟨3, c, i, ls, []⟩ := by
  unfold bat
  have e : fit c i ls (min ls.length 8) = ls.length := by
    rw [Nat.min_eq_left h8]
    exact fit_ok c i ls (by rw [List.take_length]; exact h)
  rw [e, List.take_length]
/-- region 10 -/
def bl10 (g p m : Nat) (lq : Option Addr) (lc : Nat) (L : Ls) : Nat → Value → World → Prop
  | 0 => IsV (.int .i64 0)
  | 1 => IsV (.bool false)
  | 2 => IsV (.bool false)
  | 3 => IsV (.int .i64 0)
  | 4 => IsV (.bool false)
  | 5 => IsV (.bool false)
  | 6 => IsV (.bool false)
  | 7 => IsV (.int .i64 0)
  | 8 => IsV (.bool false)
  | 9 => IsV (.bool false)
  | 10 => IsV (.bool false)
  | 11 => IsV (.pointer (some ⟨g, 3, none⟩))
  | 12 => IsV (.slice lq m lc)
  | 13 => IsV (.pointer (some ⟨p, 0, none⟩))
  | 14 => LgV m L
  | 15 => IsV (.bool true)
  | 16 => IsV (.bool false)
  | 17 => IsV (.bool false)
  | _ => fun _ _ => True
theorem bl10_kept (g p m : Nat) (lq : Option Addr) (lc : Nat) (L : Ls) : ∀ i v w w', bl10 g p m lq lc L i v w → Bq w w' → bl10 g p m lq lc L i v w'
  | 0, _, _, _, h, _ => h
  | 1, _, _, _, h, _ => h
  | 2, _, _, _, h, _ => h
  | 3, _, _, _, h, _ => h
  | 4, _, _, _, h, _ => h
  | 5, _, _, _, h, _ => h
  | 6, _, _, _, h, _ => h
  | 7, _, _, _, h, _ => h
  | 8, _, _, _, h, _ => h
  | 9, _, _, _, h, _ => h
  | 10, _, _, _, h, _ => h
  | 11, _, _, _, h, _ => h
  | 12, _, _, _, h, _ => h
  | 13, _, _, _, h, _ => h
  | 14, _, _, _, h, ho => h.kept ho
  | 15, _, _, _, h, _ => h
  | 16, _, _, _, h, _ => h
  | 17, _, _, _, h, _ => h
  | _ + 18, _, _, _, _, _ => trivial
set_option maxHeartbeats 2000000 in
set_option maxRecDepth 20000 in
theorem blind_any (q : Option Addr) (cp : Nat) (ls : Ls) (w : World) (h : LkRow w q ls) (hl : ls.length ≤ 9223372036854775807) :
    Calls Try.prog 8 #[.slice q ls.length cp] w fun e w' => e = .returned (.bool true) ∧ Below w.heap.size w w' := by
  obtain ⟨n, HN⟩ : ∃ n, Hid (ls.length = n) := ⟨_, rfl⟩
  have HA : Hid (LkRow w q ls) := h
  have hn : n ≤ 9223372036854775807 := by rw [← HN.out]; exact hl
  rw [HN.out]
  have HC : Calls Try.prog 9 #[] w fun e w' => e = .returned (.bool true) ∧ Hid (Below w.heap.size w w') := anchor_any w
  clear h hl
  go_enter Try.func8, Try.ntmps8
  go_wp2_with fail
  refine HC.mono ?_
  rintro e w1 ⟨rfl, H1⟩
  clear HC
  obtain ⟨W2, hW2⟩ : ∃ W2, W2 = w1.alloc (.cells #[.int .i64 1, .int .i64 1, .int .i64 0, .slice q n cp, .slice none 0 0] 37) := ⟨_, rfl⟩
  have HB2 : Hid (Below w.heap.size w W2) := by rw [hW2]; exact H1.out.alloc H1.out.size _
  have hbx : W2.heap[w1.heap.size]? = some (.cells #[.int .i64 1, .int .i64 1, .int .i64 0, .slice q n cp, .slice none 0 0] 37 (0, 0)) := by rw [hW2]; exact heap_alloc_new w1 _
  have HS2 : Hid (w1.heap.size < W2.heap.size) := by show _ < _; rw [hW2]; simp
  have HBX : Hid (∀ W, Below W2.heap.size W2 W → W.heap[w1.heap.size]? = some (.cells #[.int .i64 1, .int .i64 1, .int .i64 0, .slice q n cp, .slice none 0 0] 37 (0, 0))) := fun W hW => (hW.block _ HS2.out).trans hbx
  have d0 : W2.cell? ⟨w1.heap.size, 0, none⟩ = some (.int .i64 1) := cell_of_row _ _ _ _ _ _ hbx
  have d1 : W2.cell? ⟨w1.heap.size, 1, none⟩ = some (.int .i64 1) := cell_of_row _ _ _ _ _ _ hbx
  have d2 : W2.cell? ⟨w1.heap.size, 2, none⟩ = some (.int .i64 0) := cell_of_row _ _ _ _ _ _ hbx
  have d3 : W2.cell? ⟨w1.heap.size, 3, none⟩ = some (.slice q n cp) := cell_of_row _ _ _ _ _ _ hbx
  have d4 : W2.cell? ⟨w1.heap.size, 4, none⟩ = some (.slice none 0 0) := cell_of_row _ _ _ _ _ _ hbx
  have HSM : Calls Try.prog 10 #[.slice (some ⟨W2.heap.size, 0, none⟩) 1 1, .int .i64 1] (W2.alloc (.cells #[.int .i64 0, .int .i64 0, .int .i64 1, .int .i64 1, .int .i64 0, .slice q n cp, .slice none 0 0, .slice none 0 0] 36)) fun e w' => e = .returned (.bool (sm1 ls)) ∧ Hid (Below W2.heap.size W2 w') := small_one 1 (HA.out.below HB2.out) HN.out hn
  obtain ⟨b1, HB1⟩ : ∃ b, Hid (sm1 ls = b) := ⟨_, rfl⟩
  rw [HB1.out] at HSM
  clear hbx
  go_upto_region 4 with fail
  rw [← hW2]
  clear hW2
  go_wp2_with fail
  refine HSM.mono ?_
  rintro e w3 ⟨rfl, H3⟩
  clear HSM d0 d1 d2 d3 d4
  have hbx := HBX.out w3 H3.out
  have d0 : w3.cell? ⟨w1.heap.size, 0, none⟩ = some (.int .i64 1) := cell_of_row _ _ _ _ _ _ hbx
  have d1 : w3.cell? ⟨w1.heap.size, 1, none⟩ = some (.int .i64 1) := cell_of_row _ _ _ _ _ _ hbx
  have d2 : w3.cell? ⟨w1.heap.size, 2, none⟩ = some (.int .i64 0) := cell_of_row _ _ _ _ _ _ hbx
  have d3 : w3.cell? ⟨w1.heap.size, 3, none⟩ = some (.slice q n cp) := cell_of_row _ _ _ _ _ _ hbx
  have d4 : w3.cell? ⟨w1.heap.size, 4, none⟩ = some (.slice none 0 0) := cell_of_row _ _ _ _ _ _ hbx
  clear hbx
  have HB3 : Hid (Below w.heap.size w w3) := HB2.out.trans (H3.out.mono HB2.out.size)
  cases b1 with
  | false =>
    go_wp2_with fail
    go_ret
    exact ⟨rfl, HB3.out⟩
  | true =>
  have HI3 : Hid (FrIs w3 (.agg #[.int .i64 1, .int .i64 1, .int .i64 0, .slice q n cp, .slice none 0 0]) (pf 1 ls)) := pf_is (HA.out.below HB3.out) HN.out hn
  have HRT : Calls Try.prog 12 #[.agg #[.int .i64 1, .int .i64 1, .int .i64 0, .slice q n cp, .slice none 0 0]] w3 fun e w' => e = .returned (.bool (F17.right (pf 1 ls))) ∧ Hid (Below w3.heap.size w3 w') := rRight_any _ _ _ HI3.out
  obtain ⟨b2, HR⟩ : ∃ b, Hid (F17.right (pf 1 ls) = b) := ⟨_, rfl⟩
  rw [HR.out] at HRT
  go_wp2_with fail
  refine HRT.mono ?_
  rintro e w4 ⟨rfl, H4⟩
  clear HRT d0 d1 d2 d3 d4
  have H24 : Hid (Below W2.heap.size W2 w4) := H3.out.trans (H4.out.mono H3.out.size)
  have HB4 : Hid (Below w.heap.size w w4) := HB3.out.trans (H4.out.mono HB3.out.size)
  have hbx := HBX.out w4 H24.out
  have d0 : w4.cell? ⟨w1.heap.size, 0, none⟩ = some (.int .i64 1) := cell_of_row _ _ _ _ _ _ hbx
  have d1 : w4.cell? ⟨w1.heap.size, 1, none⟩ = some (.int .i64 1) := cell_of_row _ _ _ _ _ _ hbx
  have d2 : w4.cell? ⟨w1.heap.size, 2, none⟩ = some (.int .i64 0) := cell_of_row _ _ _ _ _ _ hbx
  have d3 : w4.cell? ⟨w1.heap.size, 3, none⟩ = some (.slice q n cp) := cell_of_row _ _ _ _ _ _ hbx
  have d4 : w4.cell? ⟨w1.heap.size, 4, none⟩ = some (.slice none 0 0) := cell_of_row _ _ _ _ _ _ hbx
  clear hbx
  cases b2 with
  | false =>
    go_wp2_with fail
    go_ret
    exact ⟨rfl, HB4.out⟩
  | true =>
  have HI2 : Hid (FrIs W2 (.agg #[.int .i64 1, .int .i64 1, .int .i64 0, .slice q n cp, .slice none 0 0]) (pf 1 ls)) := pf_is (HA.out.below HB2.out) HN.out hn
  have HBY : ∀ W, Below W2.heap.size W2 W → Calls Try.prog 13 #[.agg #[.int .i64 1, .int .i64 1, .int .i64 0, .slice q n cp, .slice none 0 0]] W fun e w' => ∃ bq bc, e = .returned (.slice bq (F17.bytes (pf 1 ls)).length bc) ∧ Hid (Src w' (.slice bq (F17.bytes (pf 1 ls)).length bc) (F17.bytes (pf 1 ls)) ∧ Below W.heap.size W w') := fun W hW => by
    refine (rBytes_any _ _ W (HI2.out.below hW) HR.out).mono ?_
    rintro e w' ⟨v, rfl, h1, h2⟩
    obtain ⟨bq, bc, rfl⟩ := own_slice h1
    exact ⟨bq, bc, rfl, Src.own (F17.bytes_small HI3.out.small) h1, h2⟩
  obtain ⟨z, HZ⟩ : ∃ z, Hid ((F17.bytes (pf 1 ls)).length = z) := ⟨_, rfl⟩
  rw [HZ.out] at HBY
  go_wp2_with fail
  refine (HBY _ H24.out).mono ?_
  rintro e w5 ⟨bq, bc, rfl, H5⟩
  replace H5 : Hid (Below w4.heap.size w4 w5) := H5.out.2
  clear d0 d1 d2 d3 d4
  have H25 : Hid (Below W2.heap.size W2 w5) := H24.out.trans (H5.out.mono H24.out.size)
  have HB5 : Hid (Below w.heap.size w w5) := HB4.out.trans (H5.out.mono HB4.out.size)
  clear H5 H24 HB4 H4 HB3 H3
  by_cases hz : (32000 : Int) < (z : Int)
  · go_wp2_with fail
    go_ret
    exact ⟨rfl, HB5.out⟩
  obtain ⟨r1, r8, r3⟩ := right_all HR.out
  obtain ⟨L, HL⟩ : ∃ L, Hid (add [] ls = L) := ⟨_, rfl⟩
  obtain ⟨m, HM⟩ : ∃ m, Hid (L.length = m) := ⟨_, rfl⟩
  have l8 : L.length ≤ 8 := by
    have := (add_length (ls := ls) (log := [])).2
    rw [HL.out] at this
    simp at this
    omega
  have hsmall : ∀ y ∈ ls, ∀ z ∈ y, z < 256 := HI3.out.small.1
  have hwf : Wf L := ⟨by omega, fun y hy => by
    rw [← HL.out] at hy
    rcases mem_add.1 hy with hy | hy
    · cases hy
    · exact ⟨r3 y hy, hsmall y hy⟩⟩
  obtain ⟨M1, HM1⟩ : ∃ M, Hid (upd none0 0 1 L = M) := ⟨_, rfl⟩
  have a1 : M1 0 1 = L := by rw [← HM1.out, upd_same]
  have hz8 : (F17.bytes ⟨3, 1, 0, L, []⟩).length ≤ 32768 := by
    have h1 := add_enc ls []
    rw [HL.out] at h1
    have h2 := len_of 1 1 0 ls
    have h3 := HZ.out
    unfold pf at h3
    rw [h2] at h3
    rw [len_of]
    have h4 : (Cd.enc (F17.lpts ([] : Ls))).length = 0 := rfl
    omega
  have f1 : Hid (hd none0 0 (F17.bytes (pf 1 ls)) = (M1, [], 0)) := by
    show _ = _
    rw [hd_push (.inl rfl) HR.out (by rw [HZ.out]; omega), pushA_ok (r := L) HL.out (by omega), HM1.out]
  have f2 : Hid (hd M1 0 (F17.bytes (gf 1 0)) = (M1, F17.bytes ⟨3, 1, 0, L, []⟩, 0)) := by
    show _ = _
    rw [hd_pull (.inl rfl) (by omega) (by omega)]
    unfold pullA
    rw [a1, if_neg (by omega)]
    show (M1, bat 1 0 L, (0 : Int)) = _
    rw [bat_whole hz8 l8]
  have HRB : Hid (F17.right ⟨3, 1, 0, L, []⟩ = true ∧ (F17.bytes ⟨3, 1, 0, L, []⟩).length ≤ 32768) := ⟨by
    have := bat_right (c := 1) (i := 0) (ls := L) (by omega) (by omega) hwf (k := 8) (by omega)
    rwa [List.take_of_length_le l8] at this, hz8⟩
  have HA1 : Hid (M1 0 1 = L ∧ m ≤ 8) := ⟨a1, by rw [← HM.out]; exact l8⟩
  have HIN : Hid (In64 0 ∧ In64 1) := by unfold In64; exact ⟨by omega, by omega⟩
  have HIL : Hid (∀ y ∈ ls, y ∈ L) := fun y hy => by rw [← HL.out]; exact mem_add.2 (.inr hy)
  have HSL : Hid (∀ y ∈ L, ∀ z ∈ y, z < 256) := fun y hy => (hwf.2 y hy).2
  have HSS : Hid (∀ y ∈ ls, ∀ z ∈ y, z < 256) := hsmall
  clear r1 r8 r3 l8 hwf a1 hz8 hsmall
  go_wp2_with fail
  refine (Sk.new (w0 := W2) H25.out).mono ?_
  rintro e w6 ⟨p, b, rfl, H6⟩
  have hbx := HBX.out w6 H6.out.sv.bel
  have d0 : w6.cell? ⟨w1.heap.size, 0, none⟩ = some (.int .i64 1) := cell_of_row _ _ _ _ _ _ hbx
  have d1 : w6.cell? ⟨w1.heap.size, 1, none⟩ = some (.int .i64 1) := cell_of_row _ _ _ _ _ _ hbx
  have d2 : w6.cell? ⟨w1.heap.size, 2, none⟩ = some (.int .i64 0) := cell_of_row _ _ _ _ _ _ hbx
  have d3 : w6.cell? ⟨w1.heap.size, 3, none⟩ = some (.slice q n cp) := cell_of_row _ _ _ _ _ _ hbx
  have d4 : w6.cell? ⟨w1.heap.size, 4, none⟩ = some (.slice none 0 0) := cell_of_row _ _ _ _ _ _ hbx
  clear hbx
  go_wp2_with fail
  refine (HBY _ H6.out.sv.bel).mono ?_
  rintro e w7 ⟨bq', bc', rfl, H7⟩
  clear d0 d1 d2 d3 d4
  have H7s : Hid (Sk W2 w7 p b 0 none0 [] ∧ Src w7 (.slice bq' z bc') (F17.bytes (pf 1 ls))) := by
    have h1 := H6.out.step H7.out.2
    exact ⟨h1, H7.out.1⟩
  clear H6 H7 HBY
  go_wp2_with fail
  refine (H7s.out.1.handle f1.out H7s.out.2 HIN.out.1 (by omega)).mono ?_
  rintro e w8 ⟨v8, rfl, H8⟩
  clear H7s
  have HGB : Calls Try.prog 13 #[.agg #[.int .i64 2, .int .i64 1, .int .i64 0, .slice none 0 0, .slice none 0 0]] w8 fun e w' => ∃ v, e = .returned v ∧ Hid (Sk W2 w' p b (0 + 1) M1 [] ∧ Src w' v (F17.bytes (gf 1 0))) := by
    refine (gBytes_any 1 0 w8 (by omega) (by omega)).mono ?_
    rintro e w' ⟨v, rfl, H⟩
    exact ⟨v, rfl, H8.out.1.step H.out.2, H.out.1⟩
  go_wp2_with fail
  refine HGB.mono ?_
  rintro e w9 ⟨v9, rfl, H9⟩
  clear H8 HGB
  go_wp2_with fail
  refine (H9.out.1.handle f2.out H9.out.2 HIN.out.1 (by omega)).mono ?_
  rintro e w10 ⟨v10, rfl, H10⟩
  clear H9
  have HD : Calls Try.prog 21 #[v10] w10 fun e w' => ∃ lq lc sp sc, e = .returned (.tuple #[.agg #[.int .i64 3, .int .i64 1, .int .i64 0, .slice lq m lc, .slice sp 0 sc], .int .i64 0]) ∧ Hid (Sk W2 w' p b (0 + 1 + 1) M1 [(lq, L)]) := by
    refine (Decode_any v10 _ w10 H10.out.2).mono ?_
    rintro e w' ⟨h1, ⟨h2, rfl⟩ | ⟨_, ⟨F, v2, h2, rfl, h3⟩ | ⟨h2, _⟩⟩⟩
    · have := HRB.out.2
      omega
    · rw [F17.dec_own HRB.out.1] at h2
      cases h2
      obtain ⟨q2, c2, sp, sc, rfl, h4⟩ := h3.is
      refine ⟨q2, c2, sp, sc, by simp only [FrV, HM.out]; rfl, (H10.out.1.step h1).sv, fun r hr => ?_⟩
      rcases List.mem_cons.1 hr with rfl | hr
      · exact h4.links
      · cases hr
    · rw [F17.dec_own HRB.out.1] at h2
      cases h2
  go_wp2_with fail
  refine HD.mono ?_
  rintro e w11 ⟨lq, lc, sp, sc, rfl, H11⟩
  clear HD H10
  obtain ⟨W12, hW12⟩ : ∃ W, W = w11.alloc (.cells #[.int .i64 3, .int .i64 1, .int .i64 0, .slice lq m lc, .slice sp 0 sc] 34) := ⟨_, rfl⟩
  have hb12 : Below w11.heap.size w11 W12 := by rw [hW12]; exact (Below.refl _ _).alloc (Nat.le_refl _) _
  have hbx : W12.heap[w11.heap.size]? = some (.cells #[.int .i64 3, .int .i64 1, .int .i64 0, .slice lq m lc, .slice sp 0 sc] 34 (0, 0)) := by rw [hW12]; exact heap_alloc_new w11 _
  have hs12 : w11.heap.size < W12.heap.size := by rw [hW12]; simp
  have H12 : Hid (Sk W2 W12 p b (0 + 1 + 1) M1 [(lq, L)]) := H11.out.step hb12
  have HBX2 : Hid (∀ W, Below W12.heap.size W12 W → W.cell? ⟨w11.heap.size, 3, none⟩ = some (.slice lq m lc)) := fun W hW => cell_of_row _ _ _ _ _ _ ((hW.block _ hs12).trans hbx)
  have d3 := trivial
  clear hb12 hbx hs12 H11
  have HLG : ∀ W, Below W12.heap.size W12 W → Calls Try.prog 19 #[.pointer (some ⟨p, 0, none⟩), .int .i64 0, .int .i64 1] W fun e w' => ∃ q13 c13, e = .returned (.slice q13 m c13) ∧ Hid (LkRow w' q13 L ∧ Below W.heap.size W w') := fun W h0 => by
    refine ((H12.out.step h0).log HIN.out.1 HIN.out.2 (n := m) (by rw [HA1.out.1]; exact HM.out)).mono ?_
    rintro e w' ⟨q13, c13, rfl, H⟩
    refine ⟨q13, c13, rfl, ?_, H.out.2⟩
    have := H.out.1.rows _ (List.mem_cons_self ..)
    rwa [HA1.out.1] at this
  have HSM : ∀ W q13 c13, Below W12.heap.size W12 W → LkRow W q13 L → Calls Try.prog 18 #[.slice lq m lc, .slice q13 m c13] W fun e w' => e = .returned (.bool true) ∧ Hid (Below W.heap.size W w') := by
    intro W q13 c13 h0 h8
    have hm : m ≤ 9223372036854775807 := by have := HA1.out.2; omega
    have h9 := (H12.out.step h0).rows (lq, L) (by simp)
    have := same_any lq q13 lc c13 L L W h9 h8 (by rw [HM.out]; exact hm) (by rw [HM.out]; exact hm)
    rw [HM.out] at this
    refine this.mono ?_
    rintro e w' ⟨rfl, hb⟩
    exact ⟨by rw [decide_eq_true rfl], hb⟩
  clear d3
  go_upto_region 10 with fail
  rw [← hW12]
  clear hW12
  generalize w11.heap.size = g at *
  have hd0 := C8.below_drewN 1 W12 W12.heap.size
  refine wp_region_sa (bl10 g p m lq lc L) Bq No3 (by kernel_rfl) hd0 (fun _ _ _ h k => h.trans k) (bl10_kept g p m lq lc L) (by kernel_rfl) trivial ?_ ?_
  · intro i o a' w' f hi inv hS hfi hfw hpre
    have hlt : i < 18 := (Array.getElem?_eq_some_iff.1 hi).1
    obtain rfl|rfl|rfl|rfl|rfl|rfl|rfl|rfl|rfl|rfl|rfl|rfl|rfl|rfl|rfl|rfl|rfl|rfl : i = 0 ∨ i = 1 ∨ i = 2 ∨ i = 3 ∨ i = 4 ∨ i = 5 ∨ i = 6 ∨ i = 7 ∨ i = 8 ∨ i = 9 ∨ i = 10 ∨ i = 11 ∨ i = 12 ∨ i = 13 ∨ i = 14 ∨ i = 15 ∨ i = 16 ∨ i = 17 := by omega
    · obtain rfl := Option.some.inj hi
      have h0 : a'.tmps.getD 6 undef = (.int .i64 0) := by rw [inv.old 6 (notDst_spec (by kernel_rfl))]; rfl
      exact rg_value _ rfl rfl (rfl) h0
    · obtain rfl := Option.some.inj hi
      have h0 : a'.tmps.getD 56 undef = (.int .i64 0) := pre_of hpre 0 56 (by kernel_rfl) (by kernel_rfl)
      exact rg_value _ rfl rfl (neqE_run 39 56 _ _ _ rfl (by decide) h0 rfl) rfl
    · obtain rfl := Option.some.inj hi
      have h0 := pre_of hpre 1 57 (by kernel_rfl) (by kernel_rfl)
      exact rg_value _ rfl rfl (rfl) h0
    · obtain rfl := Option.some.inj hi
      have hgu : a'.tmps.getD 58 undef = _ := pre_of hpre 2 58 (by kernel_rfl) (by kernel_rfl)
      have h0 : a'.tmps.getD 8 undef = (.int .i64 0) := by rw [inv.old 8 (notDst_spec (by kernel_rfl))]; rfl
      exact rg_value _ rfl (wanted_of 2 58 false rfl (by kernel_rfl) hgu) (rfl) h0
    · obtain rfl := Option.some.inj hi
      have hgu : a'.tmps.getD 58 undef = _ := pre_of hpre 2 58 (by kernel_rfl) (by kernel_rfl)
      have h0 : a'.tmps.getD 59 undef = (.int .i64 0) := pre_of hpre 3 59 (by kernel_rfl) (by kernel_rfl)
      exact rg_value _ rfl (wanted_of 2 58 false rfl (by kernel_rfl) hgu) (neqE_run 39 59 _ _ _ rfl (by decide) h0 rfl) rfl
    · obtain rfl := Option.some.inj hi
      have h0 : a'.tmps.getD 58 undef = (.bool false) := pre_of hpre 2 58 (by kernel_rfl) (by kernel_rfl)
      have h1 : a'.tmps.getD 60 undef = (.bool false) := pre_of hpre 4 60 (by kernel_rfl) (by kernel_rfl)
      exact rg_value _ rfl rfl (pick_run 58 false _ _ _ _ rfl h0 rfl h1) rfl
    · obtain rfl := Option.some.inj hi
      have h0 := pre_of hpre 5 61 (by kernel_rfl) (by kernel_rfl)
      exact rg_value _ rfl rfl (rfl) h0
    · obtain rfl := Option.some.inj hi
      have hgu : a'.tmps.getD 62 undef = _ := pre_of hpre 6 62 (by kernel_rfl) (by kernel_rfl)
      have h0 : a'.tmps.getD 10 undef = (.int .i64 0) := by rw [inv.old 10 (notDst_spec (by kernel_rfl))]; rfl
      exact rg_value _ rfl (wanted_of 6 62 false rfl (by kernel_rfl) hgu) (rfl) h0
    · obtain rfl := Option.some.inj hi
      have hgu : a'.tmps.getD 62 undef = _ := pre_of hpre 6 62 (by kernel_rfl) (by kernel_rfl)
      have h0 : a'.tmps.getD 63 undef = (.int .i64 0) := pre_of hpre 7 63 (by kernel_rfl) (by kernel_rfl)
      exact rg_value _ rfl (wanted_of 6 62 false rfl (by kernel_rfl) hgu) (neqE_run 39 63 _ _ _ rfl (by decide) h0 rfl) rfl
    · obtain rfl := Option.some.inj hi
      have h0 : a'.tmps.getD 62 undef = (.bool false) := pre_of hpre 6 62 (by kernel_rfl) (by kernel_rfl)
      have h1 : a'.tmps.getD 64 undef = (.bool false) := pre_of hpre 8 64 (by kernel_rfl) (by kernel_rfl)
      exact rg_value _ rfl rfl (pick_run 62 false _ _ _ _ rfl h0 rfl h1) rfl
    · obtain rfl := Option.some.inj hi
      have h0 := pre_of hpre 9 65 (by kernel_rfl) (by kernel_rfl)
      exact rg_value _ rfl rfl (rfl) h0
    · obtain rfl := Option.some.inj hi
      have hgu : a'.tmps.getD 66 undef = _ := pre_of hpre 10 66 (by kernel_rfl) (by kernel_rfl)
      have h0 : a'.tmps.getD 9 undef = (.pointer (some ⟨g, 0, none⟩)) := by rw [inv.old 9 (notDst_spec (by kernel_rfl))]; rfl
      exact rg_value _ rfl (wanted_of 10 66 false rfl (by kernel_rfl) hgu) (fa_run 34 3 9 g rfl h0 (fun w => by simp [go_sem])) rfl
    · obtain rfl := Option.some.inj hi
      have hgu : a'.tmps.getD 66 undef = _ := pre_of hpre 10 66 (by kernel_rfl) (by kernel_rfl)
      have h0 : a'.tmps.getD 67 undef = (.pointer (some ⟨g, 3, none⟩)) := pre_of hpre 11 67 (by kernel_rfl) (by kernel_rfl)
      exact rg_value _ rfl (wanted_of 10 66 false rfl (by kernel_rfl) hgu) (load_run 31 67 g (3) _ rfl h0 (ld31 (HBX2.out w' inv.grow))) rfl
    · obtain rfl := Option.some.inj hi
      have hgu : a'.tmps.getD 66 undef = _ := pre_of hpre 10 66 (by kernel_rfl) (by kernel_rfl)
      have h0 : a'.tmps.getD 4 undef = (.pointer (some ⟨p, 0, none⟩)) := by rw [inv.old 4 (notDst_spec (by kernel_rfl))]; rfl
      exact rg_value _ rfl (wanted_of 10 66 false rfl (by kernel_rfl) hgu) (rfl) h0
    · obtain rfl := Option.some.inj hi
      have hgu : a'.tmps.getD 66 undef = _ := pre_of hpre 10 66 (by kernel_rfl) (by kernel_rfl)
      have h0 : a'.tmps.getD 69 undef = (.pointer (some ⟨p, 0, none⟩)) := pre_of hpre 13 69 (by kernel_rfl) (by kernel_rfl)
      refine rg_quiet 19 #[a'.tmps.getD 69 undef, .int .i64 0, .int .i64 1] rfl (wanted_of 10 66 false rfl (by kernel_rfl) hgu) (by kernel_rfl) ?_
      rw [h0]
      exact (HLG w' inv.grow).mono (by rintro x u ⟨q13, c13, rfl, H⟩; exact ⟨_, rfl, H.out.2, q13, c13, rfl, H.out.1⟩)
    · obtain rfl := Option.some.inj hi
      have hgu : a'.tmps.getD 66 undef = _ := pre_of hpre 10 66 (by kernel_rfl) (by kernel_rfl)
      have h0 : a'.tmps.getD 68 undef = (.slice lq m lc) := pre_of hpre 12 68 (by kernel_rfl) (by kernel_rfl)
      obtain ⟨q1, c1, e1, k1⟩ := pre_of hpre 14 70 (by kernel_rfl) (by kernel_rfl)
      refine rg_quiet 18 #[a'.tmps.getD 68 undef, a'.tmps.getD 70 undef] rfl (wanted_of 10 66 false rfl (by kernel_rfl) hgu) (by kernel_rfl) ?_
      rw [h0, e1]
      exact (HSM w' q1 c1 inv.grow k1).mono (by rintro x u ⟨rfl, H⟩; exact ⟨_, rfl, H.out, rfl⟩)
    · obtain rfl := Option.some.inj hi
      have hgu : a'.tmps.getD 66 undef = _ := pre_of hpre 10 66 (by kernel_rfl) (by kernel_rfl)
      have h0 : a'.tmps.getD 71 undef = (.bool true) := pre_of hpre 15 71 (by kernel_rfl) (by kernel_rfl)
      exact rg_value _ rfl (wanted_of 10 66 false rfl (by kernel_rfl) hgu) (not_run 71 _ rfl h0) rfl
    · obtain rfl := Option.some.inj hi
      have h0 : a'.tmps.getD 66 undef = (.bool false) := pre_of hpre 10 66 (by kernel_rfl) (by kernel_rfl)
      have h1 : a'.tmps.getD 72 undef = (.bool false) := pre_of hpre 16 72 (by kernel_rfl) (by kernel_rfl)
      exact rg_value _ rfl rfl (pick_run 66 false _ _ _ _ rfl h0 rfl h1) rfl
  intro a' w13 f inv hS hall hd
  have hk17 := hd 17 73 (by kernel_rfl)
  have hgrow : Bq W12 w13 := inv.grow
  have hdf : a'.defers = [] := inv.defers
  have e := frame_of [56, 57, 58, 59, 60, 61, 62, 63, 64, 65, 66, 67, 68, 69, 70, 71, 72, 73] inv.size (fun t ht => inv.old t (dstsIn_spec (ts := [56, 57, 58, 59, 60, 61, 62, 63, 64, 65, 66, 67, 68, 69, 70, 71, 72, 73]) (by kernel_rfl) t ht))
  clear inv hd hall hS hd0
  obtain ⟨tmps, defers⟩ := a'
  obtain rfl : defers = [] := hdf
  replace e : tmps = List.foldl (fun G t => G.setIfInBounds t (tmps.getD t undef)) _ [56, 57, 58, 59, 60, 61, 62, 63, 64, 65, 66, 67, 68, 69, 70, 71, 72, 73] := e
  simp only [List.foldl_cons, List.foldl_nil] at e
  replace hk17 : tmps.getD 73 undef = (.bool false) := hk17
  generalize tmps.getD 56 undef = x56 at *
  generalize tmps.getD 57 undef = x57 at *
  generalize tmps.getD 58 undef = x58 at *
  generalize tmps.getD 59 undef = x59 at *
  generalize tmps.getD 60 undef = x60 at *
  generalize tmps.getD 61 undef = x61 at *
  generalize tmps.getD 62 undef = x62 at *
  generalize tmps.getD 63 undef = x63 at *
  generalize tmps.getD 64 undef = x64 at *
  generalize tmps.getD 65 undef = x65 at *
  generalize tmps.getD 66 undef = x66 at *
  generalize tmps.getD 67 undef = x67 at *
  generalize tmps.getD 68 undef = x68 at *
  generalize tmps.getD 69 undef = x69 at *
  generalize tmps.getD 70 undef = x70 at *
  generalize tmps.getD 71 undef = x71 at *
  generalize tmps.getD 72 undef = x72 at *
  generalize tmps.getD 73 undef = x73 at *
  simp only [List.setIfInBounds_toArray, List.set_cons_succ, List.set_cons_zero] at e
  subst e
  subst hk17
  have HC : Hid (Below W12.heap.size W12 w13) := hgrow
  have HW : Hid (Below w.heap.size w w13) := by
    have h1 : Below w.heap.size w W12 := HB2.out.trans (H12.out.sv.bel.mono HB2.out.size)
    exact h1.trans (HC.out.mono h1.size)
  have HRL : Hid (LkRow w13 lq L) := ((H12.out.rows (lq, L) (by simp)).below HC.out)
  have HRA : Hid (LkRow w13 q ls) := HA.out.below HW.out
  have d3 : w13.cell? ⟨g, 3, none⟩ = some (.slice lq m lc) := HBX2.out _ HC.out
  have hm8 : m ≤ 8 := HA1.out.2
  clear HLG HSM hgrow HBX2 H12 HC HBX H25 HB5 HB2 HS2 HI2 HI3 H1 HA1 f1 f2 HRB HB1 HR
  go_wp2_with fail
  go_loopw [76] (fun i wr => ∃ j : Nat, j ≤ n ∧ i = .int .i64 j ∧ w13 = wr) (fun i _ => n - (intOf i).toNat)
  case atStart => exact ⟨0, by omega, rfl, rfl⟩
  case round =>
    obtain ⟨j, hj, rfl, rfl⟩ := hrel
    by_cases hlt : j < n
    · have ja : j < ls.length := by rw [HN.out]; exact hlt
      obtain ⟨b1, o1, bp, bc, rfl, k2, k3, k4, k5⟩ := HRA.out j ja
      obtain ⟨y, HY⟩ : ∃ y : List Nat, Hid (ls[j] = y) := ⟨ls[j], rfl⟩
      have HYM : Hid (y ∈ ls) := by rw [← HY.out]; exact List.getElem_mem _
      rw [HY.out] at k3 k4
      have cv1 : (convert 32 9 (.slice bp y.length bc)).run Try.prog w13 = .ok (.string (strB y)) w13 := conv_src k4
      obtain ⟨zy, hzy⟩ : ∃ z, z = y.length := ⟨_, rfl⟩
      rw [← hzy] at k3 cv1
      have j1 : (j : Int) < (n : Int) := by omega
      have j0 : (0 : Int) ≤ (j : Int) := by omega
      clear k2 k4 k5 hzy
      go_wp2_with fail
      go_loopw [83, 13] (fun i v wx => ∃ k : Nat, k ≤ m ∧ i = .int .i64 k ∧ v = .bool (decide (y ∈ L.take k)) ∧ w13 = wx) (fun i _ _ => m - (intOf i).toNat)
      case atStart => exact ⟨0, by omega, rfl, by simp, rfl⟩
      case round =>
        obtain ⟨k, hk, rfl, rfl, rfl⟩ := hrel
        by_cases hkt : k < m
        · have ka : k < L.length := by rw [HM.out]; exact hkt
          obtain ⟨b2, o2, bp2, bc2, rfl, m2, m3, m4, m5⟩ := HRL.out k ka
          obtain ⟨z, HZ2⟩ : ∃ z : List Nat, Hid (L[k] = z) := ⟨L[k], rfl⟩
          have HZM : Hid (z ∈ L) := by rw [← HZ2.out]; exact List.getElem_mem _
          rw [HZ2.out] at m3 m4
          have cv2 : (convert 32 9 (.slice bp2 z.length bc2)).run Try.prog w13 = .ok (.string (strB z)) w13 := conv_src m4
          obtain ⟨zz, hzz⟩ : ∃ u, u = z.length := ⟨_, rfl⟩
          rw [← hzz] at m3 cv2
          have k1 : (k : Int) < (m : Int) := by omega
          have k0 : (0 : Int) ≤ (k : Int) := by omega
          have HEQ : Hid (((strB y).toList == (strB z).toList) = decide (y = z)) := strB_beqL (HSS.out y HYM.out) (HSL.out z HZM.out)
          have HT : Hid (∀ c : Bool, c = (decide (y ∈ L.take k) || decide (y = z)) → c = decide (y ∈ L.take (k + 1))) := by
            intro c hc
            rw [hc, List.take_succ_eq_append_getElem ka, HZ2.out]
            simp
          obtain ⟨bf, hbf⟩ : ∃ bf, bf = decide (y ∈ L.take k) := ⟨_, rfl⟩
          rw [← hbf] at HT ⊢
          clear m2 m4 m5 hzz hbf
          cases bf with
          | true =>
            go_wp2_with fail
            refine ⟨⟨k + 1, by omega, by simp, congrArg Value.bool (HT.out true (by simp)), trivial⟩, ?_⟩
            simp only [intOf]
            omega
          | false =>
            go_wp2_with fail
            refine ⟨⟨k + 1, by omega, by simp, congrArg Value.bool (HT.out _ (by rw [HEQ.out]; simp)), trivial⟩, ?_⟩
            simp only [intOf]
            omega
        · obtain rfl : k = m := by omega
          have k1 : ¬ (k : Int) < (k : Int) := by omega
          have HF : Hid (decide (y ∈ L.take k) = true) := decide_eq_true (by rw [List.take_of_length_le (by rw [HM.out]; omega)]; exact HIL.out y HYM.out)
          rw [HF.out]
          go_wp2_with fail
          refine ⟨⟨j + 1, by omega, by simp, trivial⟩, ?_⟩
          simp only [intOf]
          omega
    · obtain rfl : j = n := by omega
      have j1 : ¬ (j : Int) < (j : Int) := by omega
      go_wp2_with fail
      go_ret
      exact ⟨rfl, HW.out⟩
end Go.Proofs.Ytchoiioeeepoaaa.V19
