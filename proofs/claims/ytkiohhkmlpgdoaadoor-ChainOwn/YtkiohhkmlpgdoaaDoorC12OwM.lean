/- The walk of ChainOwn. -/
import Derived.Test.YtkiohhkmlpgdoaaDoorC12OwB
namespace Go.Proofs.YtkiohhkmlpgdoaaDoor.S7
open Go.RowKit
set_option maxHeartbeats 4000000 in
theorem ow_out (w : World) (a1 : Option Addr) (n c1 : Nat) (h : n < 1 ∨ 300 < n) : Calls Tryd.prog 6 #[.slice a1 n c1] w fun e w' => e = .returned (.bool true) ∧ Below w.heap.size w w' := by
  by_cases h0 : n < 1
  · have q1 : (n : Int) < 1 := by omega
    clear h
    go_enter Tryd.func6, Tryd.ntmps6
    go_wp2_with fail
    refine (anchor_any w).mono ?_
    rintro e w1 ⟨rfl, hb1⟩
    have HB1 : Hid (Below w.heap.size w w1) := hb1
    clear hb1
    go_wp2_with fail
    go_ret
    exact ⟨rfl, HB1.out⟩
  · have q1 : ¬ (n : Int) < 1 := by omega
    have q2 : (300 : Int) < (n : Int) := by omega
    clear h
    go_enter Tryd.func6, Tryd.ntmps6
    go_wp2_with fail
    refine (anchor_any w).mono ?_
    rintro e w1 ⟨rfl, hb1⟩
    have HB1 : Hid (Below w.heap.size w w1) := hb1
    clear hb1
    go_wp2_with fail
    go_ret
    exact ⟨rfl, HB1.out⟩
set_option maxHeartbeats 16000000 in
set_option maxRecDepth 20000 in
theorem ow_main (w : World) (a1 : Option Addr) (n c1 : Nat) (l : List Nat) (hl : l.length = n) (hold : Old w.heap.size w (.slice a1 n c1) l) (h1 : 1 ≤ n) (h3 : n ≤ 300) : Calls Tryd.prog 6 #[.slice a1 n c1] w fun e w' => e = .returned (.bool true) ∧ Below w.heap.size w w' := by
  obtain ⟨B, hBe⟩ : ∃ B, B = w.heap.size := ⟨_, rfl⟩
  have HBE : Hid (B = w.heap.size) := hBe
  rw [← hBe] at hold ⊢
  clear hBe
  have HLN : Hid (l.length = n) := hl
  have HOL : Hid (∀ w', Below B w w' → By B w' (.slice a1 n c1) l) := fun w' hb => (hold.keep hb).by
  have HLS : Hid (∀ y ∈ l, y < 256) := hold.1.small
  have q1 : ¬ (n : Int) < 1 := by omega
  have q2 : ¬ (300 : Int) < (n : Int) := by omega
  have n0 : (0 : Int) ≤ (n : Int) := by omega
  have n1 : (n : Int) ≤ 300 := by omega
  clear hl hold
  go_enter Tryd.func6, Tryd.ntmps6
  go_wp2_with fail
  refine (anchor_any w).mono ?_
  rintro e w1 ⟨rfl, hb1⟩
  rw [← HBE.out] at hb1
  have G1 : Hid (Below B w w1 ∧ B ≤ w1.heap.size) := ⟨hb1, by have := hb1.size; rw [HBE.out]; exact this⟩
  clear hb1
  go_wp2_with fail
  refine (Signs_new w1).mono ?_
  rintro e w2 ⟨p, q, m, x, rfl, hs, hb⟩
  have G2 : Hid (Sw B w2 p q m x [] ∧ Below B w w2 ∧ B ≤ w2.heap.size) := ⟨⟨hs.su, by have := hs.lo; have := G1.out.2; omega⟩, G1.out.1.trans (hb.mono G1.out.2), Nat.le_trans G1.out.2 hb.size⟩
  clear hs hb G1
  go_wp2_with fail
  refine (Zz.New_s B [] p q m x [] w2 1 G2.out.1 (by simp) (fun z hz => by cases hz) G2.out.2.2 (by omega)).mono ?_
  rintro e w3 ⟨c, sv0, rfl, hc, hs, ho, _, _⟩
  have G3 : Hid (Sw B w3 p q m x L1 ∧ Zz.ChIs B [] w3 c p (.slice none 0 0) sv0 [] [r0] ∧ Below B w w3 ∧ B ≤ w3.heap.size) := ⟨hs, hc, G2.out.2.1.trans (ho.below G2.out.2.2 (fun y hy => by
    rcases List.mem_cons.1 hy with rfl | e
    · exact G2.out.1.lo.1
    · rw [List.mem_singleton.1 e]; exact G2.out.1.lo.2.2.1)), Nat.le_trans G2.out.2.2 ho.size⟩
  clear hc hs ho G2
  go_wp2_with (first | with_reducible (refine stop_builtin .append ?_))
  refine Stop.go ?_
  have hb5 : Below w3.heap.size w3 (w3.alloc (.cells #[] 5)) := below_alloc' w3 _
  have he : (w3.alloc (.cells #[] 5)).ownsRow w3.heap.size 5 1 (.slice (some ⟨w3.heap.size, 0, none⟩) 0 0) 0 (ints .u8 []) :=
    ⟨rfl, .inr ⟨w3.heap.size, 0, #[], rfl, Nat.le_refl _, heap_alloc_new w3 _, Nat.le_refl _, by unfold maxLen; decide, rfl, rfl⟩⟩
  refine law_append_src w3.heap.size _ 0 [] (.slice a1 n c1) l rfl rfl he ((HOL.out w3 G3.out.2.2.1).src.below hb5) (by have := HLN.out; omega) (by simp) ?_
  intro u w4 ho hg
  rw [Nat.zero_add, List.nil_append, HLN.out] at ho
  have hb4 : Below w3.heap.size w3 w4 := hb5.trans (below_append he hg (by simp))
  obtain ⟨gx, cx, rfl, hgx, hgxl, hcx, _⟩ := own_cell ho (by omega)
  have HRBx : Hid (Rb w4 gx n) := Rb.of_own HLN.out ho
  have HBYx : Hid (By B w4 (.slice (some ⟨gx, 0, none⟩) n cx) l) := By.own HLS.out ho
  have G4 : Hid (Sw B w4 p q m x L1 ∧ Zz.ChIs B [gx] w4 c p (.slice none 0 0) sv0 [] [r0] ∧ Below B w w4 ∧ B ≤ w4.heap.size) := ⟨G3.out.1.below hb4, (Zz.ChIs.avoid G3.out.2.1 hgx (fun l hl => by cases hl) (fun l hl => by rw [List.mem_singleton.1 hl]; intro e; have := rlen.1; rw [e] at this; cases this)).below hb4, G3.out.2.2.1.trans (hb4.mono G3.out.2.2.2), Nat.le_trans G3.out.2.2.2 hb4.size⟩
  have HGX : Hid (B ≤ gx ∧ gx < w4.heap.size) := ⟨Nat.le_trans G3.out.2.2.2 hgx, hgxl⟩
  clear ho hg hb4 hb5 he hgx hgxl hcx G3
  go_wp2_with fail
  have HAP := Zz.Append_s B [gx] c p q m x L1 (.slice none 0 0) sv0 [] [r0] w4 (some ⟨gx, 0, none⟩) n cx l r0 G4.out.1 (by have := lens; omega) G4.out.2.1 G4.out.2.2.2 HBYx.out (by omega) (by simp) rfl (by have := rlen; omega) (by simp) (fun z hz => by rw [List.mem_singleton.1 hz]; exact HGX.out.2)
  obtain ⟨r1x, hr1x⟩ : ∃ r1x, r1x = sg L1 (r0 ++ l) := ⟨_, rfl⟩
  obtain ⟨L, hL⟩ : ∃ L, L = ad L1 (r0 ++ l) := ⟨_, rfl⟩
  have h32 : r1x.length = 32 ∧ ∀ y ∈ r1x, y < 256 := by rw [hr1x]; exact ⟨sg_length _ _, sg_small _ _⟩
  rw [← hr1x, ← hL] at HAP
  have HR1 : Hid (∀ y ∈ r1x, y < 256) := h32.2
  have hr32 := h32.1
  clear hr1x hL h32
  refine HAP.mono ?_
  rintro e w5 ⟨rfl, lv, sv, hc, hs, ho, _, _⟩
  have hk5 : Kx TS B w4 w5 := Kx.of_only ho G4.out.2.2.2 (fun y hy => by
    rcases List.mem_append.1 hy with e | e
    · refine ⟨?_, (G4.out.1.su.ty y e).2⟩
      rcases List.mem_cons.1 e with rfl | e
      · exact G4.out.1.lo.1
      · rw [List.mem_singleton.1 e]; exact G4.out.1.lo.2.2.1
    · exact G4.out.2.1.fpty y e)
  have G5 : Hid (Sw B w5 p q m x L ∧ Zz.ChIs B [gx] w5 c p lv sv [l] [r0, r1x] ∧ Below B w w5 ∧ B ≤ w5.heap.size) := ⟨hs, hc, G4.out.2.2.1.trans hk5.low, Nat.le_trans G4.out.2.2.2 hk5.low.size⟩
  have HRB5 : Hid (Rb w5 gx n) := HRBx.out.kx hk5
  clear hc hs ho hk5 G4 HAP HRBx HBYx
  go_wp2_with fail
  refine (Zz.Head_any G5.out.2.1 r1x rfl (by omega)).mono ?_
  rintro e w6 ⟨u, rfl, ho, hb6⟩
  rw [hr32] at ho
  have hcv := conv_src (Src.own HR1.out ho)
  obtain ⟨uq, uc, rfl⟩ := own_slice ho
  have hf44 := field44_1 (.int .i64 1) (.slice uq 32 uc) w6
  have G6 : Hid (Sw B w6 p q m x L ∧ Zz.ChIs B [gx] w6 c p lv sv [l] [r0, r1x] ∧ Below B w w6 ∧ B ≤ w6.heap.size) := ⟨G5.out.1.below hb6, G5.out.2.1.below hb6, G5.out.2.2.1.trans (hb6.mono G5.out.2.2.2), Nat.le_trans G5.out.2.2.2 hb6.size⟩
  have HRBa : Hid (Rb w6 gx n) := HRB5.out.below hb6
  clear ho hb6 G5 HRB5
  go_wp2_with fail
  go_loopw [47] (fun i wr => ∃ (j : Nat), j ≤ n ∧ i = .int .i64 j ∧ Hid (Rb wr gx n) ∧ Hid (Sw B wr p q m x L ∧ Zz.ChIs B [gx] wr c p lv sv [l] [r0, r1x] ∧ Below B w wr ∧ B ≤ wr.heap.size)) (fun i _ => n - (intOf i).toNat)
  case atStart => exact ⟨0, by omega, rfl, HRBa.out, G6.out⟩
  case round =>
    obtain ⟨j, hj, rfl, HR, HS⟩ := hrel
    have j0 : (0 : Int) ≤ (j : Int) := by omega
    by_cases hlt : j < n
    · have j1 : (j : Int) < (n : Int) := by omega
      obtain ⟨z, c1', c2'⟩ := HR.out.cell hlt
      have c3' : wr.cell? ⟨gx, 0 + j, none⟩ = some (.int .u8 z) := by rw [Nat.zero_add]; exact c1'
      have HNX : Hid (∀ z', Rb (wr.setCell ⟨gx, j, none⟩ (.int .u8 z')) gx n ∧ (Sw B (wr.setCell ⟨gx, j, none⟩ (.int .u8 z')) p q m x L ∧ Zz.ChIs B [gx] (wr.setCell ⟨gx, j, none⟩ (.int .u8 z')) c p lv sv [l] [r0, r1x] ∧ Below B w (wr.setCell ⟨gx, j, none⟩ (.int .u8 z')) ∧ B ≤ (wr.setCell ⟨gx, j, none⟩ (.int .u8 z')).heap.size)) := fun z' => ⟨HR.out.set j z', HS.out.1.set HR.out j _, Zz.ChIs.set HS.out.2.1 HR.out j _, HS.out.2.2.1.setCell (p := ⟨gx, j, none⟩) HGX.out.1 _, by rw [World.size_setCell]; exact HS.out.2.2.2⟩
      go_wp2_with fail
      refine ⟨⟨j + 1, by omega, by simp, (HNX.out _).1, (HNX.out _).2⟩, ?_⟩
      simp only [intOf]
      omega
    · obtain rfl : n = j := by omega
      have j1 : ¬ (n : Int) < (n : Int) := by omega
      have G7 : Hid (Sw B wr p q m x L ∧ Zz.ChIs B [gx] wr c p lv sv [l] [r0, r1x] ∧ Below B w wr ∧ B ≤ wr.heap.size) := HS.out
      clear HR HS hlt j0 j1 hj G6 HRBa
      obtain ⟨w7, hw7⟩ : ∃ w7, w7 = wr := ⟨_, rfl⟩
      rw [← hw7] at G7 ⊢
      clear hw7
      go_wp2_with fail
      refine (Zz.Link_at G7.out.2.1 0 l rfl (by have := HLN.out; omega)).mono ?_
      rintro e w8 ⟨uy, rfl, ho, hb8⟩
      rw [HLN.out] at ho
      obtain ⟨gy, cy, rfl, hgy, hgyl, _, _⟩ := own_cell ho (by omega)
      have HRBy : Hid (Rb w8 gy n) := Rb.of_own HLN.out ho
      have HBBy : Hid (Below w7.heap.size w7 w8) := hb8
      have HGGy : Hid (w7.heap.size ≤ gy) := hgy
      clear ho hb8 hgy hgyl
      go_wp2_with fail
      go_loopw [64] (fun i wr => ∃ (j : Nat), j ≤ n ∧ i = .int .i64 j ∧ Hid (Rb wr gy n) ∧ Hid (Below w7.heap.size w7 wr)) (fun i _ => n - (intOf i).toNat)
      case atStart => exact ⟨0, by omega, rfl, HRBy.out, HBBy.out⟩
      case round =>
        obtain ⟨j, hj, rfl, HR, HB⟩ := hrel
        have j0 : (0 : Int) ≤ (j : Int) := by omega
        by_cases hlt : j < n
        · have j1 : (j : Int) < (n : Int) := by omega
          obtain ⟨z, c1, c2⟩ := HR.out.cell hlt
          have c1' : wr.cell? ⟨gy, 0 + j, none⟩ = some (.int .u8 z) := by rw [Nat.zero_add]; exact c1
          have HNX : Hid (∀ z', Rb (wr.setCell ⟨gy, j, none⟩ (.int .u8 z')) gy n ∧ Below w7.heap.size w7 (wr.setCell ⟨gy, j, none⟩ (.int .u8 z'))) := fun z' => ⟨HR.out.set j z', HB.out.setCell (p := ⟨gy, j, none⟩) HGGy.out _⟩
          go_wp2_with fail
          refine ⟨⟨j + 1, by omega, by simp, (HNX.out _).1, (HNX.out _).2⟩, ?_⟩
          simp only [intOf]
          omega
        · obtain rfl : n = j := by omega
          have j1 : ¬ (n : Int) < (n : Int) := by omega
          have G8 : Hid (Sw B wr p q m x L ∧ Zz.ChIs B [gx] wr c p lv sv [l] [r0, r1x] ∧ Below B w wr ∧ B ≤ wr.heap.size) := ⟨G7.out.1.below HB.out, G7.out.2.1.below HB.out, G7.out.2.2.1.trans (HB.out.mono G7.out.2.2.2), Nat.le_trans G7.out.2.2.2 HB.out.size⟩
          clear HR HB hlt j0 j1 hj G7 HRBy HBBy HGGy
          obtain ⟨w8b, hw8b⟩ : ∃ w8b, w8b = wr := ⟨_, rfl⟩
          rw [← hw8b] at G8 ⊢
          clear hw8b
          go_wp2_with fail
          refine (Zz.Head_any G8.out.2.1 r1x rfl (by omega)).mono ?_
          rintro e w9 ⟨u2, rfl, ho, hb9⟩
          rw [hr32] at ho
          obtain ⟨gh, uc2, rfl, hgh, hghl, _, _⟩ := own_cell ho (by omega)
          obtain ⟨w10, HW10⟩ : ∃ w10, Hid (w9.alloc (.cells #[.int .i64 1, .slice (some ⟨gh, 0, none⟩) 32 uc2] 44) = w10) := ⟨_, rfl⟩
          have hb10 : Below w9.heap.size w9 w10 := by rw [← HW10.out]; exact below_alloc' w9 _
          obtain ⟨gd, hgd⟩ : ∃ gd, gd = w9.heap.size := ⟨_, rfl⟩
          have hzd : w10.heap[gd]? = some (.cells #[.int .i64 1, .slice (some ⟨gh, 0, none⟩) 32 uc2] 44 (0, 0)) := by rw [← HW10.out, hgd]; exact heap_alloc_new w9 _
          have zd1 : (w9.alloc (.cells #[.int .i64 1, .slice (some ⟨gh, 0, none⟩) 32 uc2] 44)).cell? ⟨w9.heap.size, 1, none⟩ = some (.slice (some ⟨gh, 0, none⟩) 32 uc2) := by rw [HW10.out, ← hgd, cell_of_row _ _ _ _ _ _ hzd]; rfl
          have HGD : Hid (w10.heap[gd]? = some (.cells #[.int .i64 1, .slice (some ⟨gh, 0, none⟩) 32 uc2] 44 (0, 0))) := hzd
          have HRBh : Hid (Rb w10 gh 32) := (Rb.of_own hr32 ho).below hb10
          have HBBh : Hid (Below w8b.heap.size w8b w10) := hb9.trans (hb10.mono hb9.size)
          have HGGh : Hid (w8b.heap.size ≤ gh) := hgh
          have G9 : Hid (Sw B w8b p q m x L ∧ Zz.ChIs B [gx] w8b c p lv sv [l] [r0, r1x] ∧ Below B w w8b ∧ B ≤ w8b.heap.size) := G8.out
          clear ho hb9 hb10 hzd hgh hghl G8
          go_wp2_with fail
          rw [HW10.out]
          rw [← hgd]
          clear zd1 HW10 hgd
          go_loopw [79] (fun i wr => ∃ (j : Nat), j ≤ 32 ∧ i = .int .i64 j ∧ Hid (Rb wr gh 32) ∧ Hid (Below w8b.heap.size w8b wr) ∧ Hid (wr.heap[gd]? = some (.cells #[.int .i64 1, .slice (some ⟨gh, 0, none⟩) 32 uc2] 44 (0, 0)))) (fun i _ => 32 - (intOf i).toNat)
          case atStart => exact ⟨0, by omega, rfl, HRBh.out, HBBh.out, HGD.out⟩
          case round =>
            obtain ⟨j, hj, rfl, HR, HB, HG⟩ := hrel
            clear HRBh HBBh HGD
            have j0 : (0 : Int) ≤ (j : Int) := by omega
            have e1 : wr.cell? ⟨gd, 1, none⟩ = some (.slice (some ⟨gh, 0, none⟩) 32 uc2) := by rw [cell_of_row _ _ _ _ _ _ HG.out]; rfl
            by_cases hlt : j < 32
            · have j1 : (j : Int) < 32 := by omega
              obtain ⟨z, c1', c2'⟩ := HR.out.cell hlt
              have c3' : wr.cell? ⟨gh, 0 + j, none⟩ = some (.int .u8 z) := by rw [Nat.zero_add]; exact c1'
              have HNX : Hid (∀ z', Rb (wr.setCell ⟨gh, j, none⟩ (.int .u8 z')) gh 32 ∧ Below w8b.heap.size w8b (wr.setCell ⟨gh, j, none⟩ (.int .u8 z')) ∧ (wr.setCell ⟨gh, j, none⟩ (.int .u8 z')).heap[gd]? = some (.cells #[.int .i64 1, .slice (some ⟨gh, 0, none⟩) 32 uc2] 44 (0, 0))) := fun z' => ⟨HR.out.set j z', HB.out.setCell (p := ⟨gh, j, none⟩) HGGh.out _, (Below.heap_setCell _ _ _ _ (fun e => by
                obtain ⟨cs, hcs⟩ := HR.out.ty
                have h9 := HG.out
                simp only at e
                rw [e, hcs] at h9
                cases h9)).trans HG.out⟩
              go_wp2_with fail
              refine ⟨⟨j + 1, by omega, by simp, (HNX.out _).1, (HNX.out _).2.1, (HNX.out _).2.2⟩, ?_⟩
              simp only [intOf]
              omega
            · obtain rfl : j = 32 := by omega
              have G11 : Hid (Sw B wr p q m x L ∧ Zz.ChIs B [gx] wr c p lv sv [l] [r0, r1x] ∧ Below B w wr ∧ B ≤ wr.heap.size) := ⟨G9.out.1.below HB.out, G9.out.2.1.below HB.out, G9.out.2.2.1.trans (HB.out.mono G9.out.2.2.2), Nat.le_trans G9.out.2.2.2 HB.out.size⟩
              clear HR HB HG hlt j0 hj G9
              go_wp2_with fail
              refine (Zz.Link_at G11.out.2.1 0 l rfl (by have := HLN.out; omega)).mono ?_
              rintro e w12 ⟨uz, rfl, ho, hb12⟩
              rw [HLN.out] at ho
              have G12 : Hid ((Sw B w12 p q m x L ∧ Zz.ChIs B [gx] w12 c p lv sv [l] [r0, r1x] ∧ Below B w w12 ∧ B ≤ w12.heap.size) ∧ By B w12 uz l ∧ By B w12 (.slice a1 n c1) l) := ⟨⟨G11.out.1.below hb12, G11.out.2.1.below hb12, G11.out.2.2.1.trans (hb12.mono G11.out.2.2.2), Nat.le_trans G11.out.2.2.2 hb12.size⟩, By.own HLS.out ho, HOL.out w12 (G11.out.2.2.1.trans (hb12.mono G11.out.2.2.2))⟩
              have hcz := conv_src G12.out.2.1.src
              have hcb := conv_src G12.out.2.2.src
              have hqq : ((strB l).toList == (strB l).toList) = true := by simp
              obtain ⟨zq, zc, rfl⟩ := own_slice ho
              clear ho hb12 G11
              have G12' : Hid (Sw B w12 p q m x L ∧ Zz.ChIs B [gx] w12 c p lv sv [l] [r0, r1x] ∧ Below B w w12 ∧ B ≤ w12.heap.size) := G12.out.1
              clear G12
              generalize strB l = sl at *
              go_wp2_with fail
              refine (Zz.Head_any G12'.out.2.1 r1x rfl (by omega)).mono ?_
              rintro e w13 ⟨u3, rfl, ho, hb13⟩
              rw [hr32] at ho
              have hcv3 := conv_src (Src.own HR1.out ho)
              obtain ⟨uq3, uc3, rfl⟩ := own_slice ho
              have hf443 := field44_1 (.int .i64 1) (.slice uq3 32 uc3) w13
              have HBF : Hid (Below B w w13) := G12'.out.2.2.1.trans (hb13.mono G12'.out.2.2.2)
              clear ho hb13 G12' hcz hcb
              have hqr : ((strB r1x).toList == (strB r1x).toList) = true := by simp
              generalize strB r1x = srx at *
              go_wp2_with fail
              go_ret
              exact ⟨rfl, HBF.out⟩
theorem own_any (w : World) (a1 : Option Addr) (n c1 : Nat) (h : RowIs w a1 n c1) : Calls Tryd.prog 6 #[.slice a1 n c1] w fun e w' => e = .returned (.bool true) ∧ Below w.heap.size w w' := by
  obtain ⟨l, hl, hs⟩ := Src.of h
  by_cases h1 : n < 1 ∨ 300 < n
  · exact ow_out w a1 n c1 h1
  exact ow_main w a1 n c1 l hl (Old.of hs) (by omega) (by omega)
end Go.Proofs.YtkiohhkmlpgdoaaDoor.S7
