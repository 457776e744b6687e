/- ChainReal: the main way. -/
import Derived.Test.YtkiohhkmlpgdoaaDoorC12RlB
import Derived.Test.YtkiohhkmlpgdoaaDoorC12OwB
import Derived.Deep.RegionLaw
namespace Go.Proofs.YtkiohhkmlpgdoaaDoor.S7
open Go.RowKit
theorem cf17r (vs : Array Value) (w : World) : (callFunc 17 vs).run Tryd.prog w = .ok (.enter 17 vs) w := by kernel_rfl
set_option maxHeartbeats 16000000 in
set_option maxRecDepth 20000 in
theorem rl_main (w : World) (n : Nat) (a1 : Option Addr) (n1 c1 : Nat) (al : List (List Nat)) (h1 : RowsIs w a1 al) (hn1 : al.length = n1) (k : n1 ≤ 4) (hs1 : sml al = true) (hT : S2.Tab w) (hn : 1 ≤ n ∧ n ≤ 1099511627776) :
    Calls Tryd.prog 4 #[.int .i64 (n : Int), .slice a1 n1 c1] w fun e w' => e = .returned (.bool true) ∧ Below w.heap.size w w' := by
  obtain ⟨B, hBe⟩ : ∃ B, B = w.heap.size := ⟨_, rfl⟩
  have HBE : Hid (B = w.heap.size) := hBe
  have HT : Hid (S2.Tab w ∧ 0 < B) := ⟨hT, by rw [hBe]; exact tab_lt hT⟩
  rw [← hBe]
  clear hBe hT
  have H1 : Hid (RowsIs w a1 al) := h1
  have HN1 : Hid (al.length = n1) := hn1
  have HS1 : Hid (sml al = true) := hs1
  have HNN : Hid (1 ≤ n ∧ n ≤ 1099511627776) := hn
  have HSML1 : Hid (∀ y ∈ al, y.length ≤ 300) := by
    show ∀ y ∈ al, y.length ≤ 300
    unfold sml at hs1
    exact of_decide_eq_true (Bool.and_eq_true_iff.1 hs1).1
  have q0 : ¬ (4 : Int) < (n1 : Int) := by omega
  have z0 : (0 : Int) ≤ (n1 : Int) := by omega
  have z1 : (n1 : Int) ≤ 4 := by omega
  clear h1 hn1 hs1 hn
  go_enter Tryd.func4, Tryd.ntmps4
  go_wp2_with fail
  refine (anchor_any w).mono ?_
  rintro e w1 ⟨rfl, hb1⟩
  have HB1 : Hid (Below w.heap.size w w1) := hb1
  clear hb1
  go_wp2_with fail
  refine (small_any w w1 a1 n1 c1 al H1.out HB1.out HN1.out (by omega) (s := true) HS1.out).mono ?_
  rintro e w9 ⟨rfl, hw9⟩
  obtain rfl : w1 = w9 := hw9.symm
  clear hw9
  go_wp2_with fail
  have G1 : Hid (Below B w w1 ∧ B ≤ w1.heap.size) := ⟨by rw [HBE.out]; exact HB1.out, by rw [HBE.out]; exact HB1.out.size⟩
  clear HB1 HS1
  refine (Real_nil w1).mono ?_
  rintro e w2 ⟨p, rfl, hp, hb, hlo⟩
  have G2 : Hid (Rs B w2 p ∧ Below B w w2 ∧ B ≤ w2.heap.size) := by
    have hb2 : Below B w w2 := G1.out.1.trans (hb.mono G1.out.2)
    exact ⟨⟨hp, tab_below HT.out.1 hb2 HT.out.2, Nat.le_trans G1.out.2 hlo, HT.out.2⟩, hb2, Nat.le_trans G1.out.2 hb.size⟩
  clear hp hb hlo G1
  go_wp2_with fail
  refine (rl_new G2.out.1 G2.out.2.2 HNN.out).mono ?_
  rintro e w3 ⟨c, rfl, ho, hk⟩
  have G3 : Hid (OneR B w3 p c [] [S2.Sp.sum (lock6 ++ first n)] ∧ Below B w w3 ∧ B ≤ w3.heap.size) := ⟨ho, G2.out.2.1.trans (hk.mono G2.out.2.2), Nat.le_trans G2.out.2.2 hk.size⟩
  clear ho hk G2
  have hcv := Lib.run_convert_bytes_const (P := Tryd.prog) w3 23 5 #[.int .u8 108, .int .u8 111, .int .u8 99, .int .u8 107, .int .u8 101, .int .u8 116] 6 6 Tryd.underlying23 Tryd.underlying5
  obtain ⟨g4, hg4⟩ : ∃ g4, g4 = w3.heap.size := ⟨_, rfl⟩
  have HG4 : Hid (g4 = w3.heap.size) := hg4
  generalize hW4 : w3.alloc (.cells #[.int .u8 108, .int .u8 111, .int .u8 99, .int .u8 107, .int .u8 101, .int .u8 116] 5 (6, 7)) = w4 at hcv
  have hb4 : Below w3.heap.size w3 w4 := by rw [← hW4]; exact below_alloc' w3 _
  have hs4 : w4.heap[g4]? = some (.cells #[.int .u8 108, .int .u8 111, .int .u8 99, .int .u8 107, .int .u8 101, .int .u8 116] 5 (6, 7)) := by
    rw [← hW4, hg4]
    exact heap_alloc_new _ _
  have G4 : Hid ((OneR B w4 p c [] [S2.Sp.sum (lock6 ++ first n)] ∧ Below B w w4 ∧ B ≤ w4.heap.size) ∧ Src w4 (.slice (some ⟨g4, 0, none⟩) 6 6) lock6) := ⟨⟨G3.out.1.below hb4, G3.out.2.1.trans (hb4.mono G3.out.2.2), Nat.le_trans G3.out.2.2 hb4.size⟩, Src.row (by decide) (by decide) (rangeAt_of_row (t := 5) (fr := (6, 7)) hs4) rfl⟩
  clear hW4 hb4 hs4 G3 hg4
  go_wp2_with (first | with_reducible (refine stop_builtin .append ?_))
  rw [← HG4.out]
  clear hcv HG4
  refine (C8.RefNum_any n w4 HNN.out.2).mono ?_
  rintro e w5 ⟨v5, rfl, ho5, hb5⟩
  obtain ⟨g5, c5, rfl, -, -, -, hr5⟩ := C8.own_cell ho5 (by decide)
  have G5 : Hid ((OneR B w5 p c [] [S2.Sp.sum (lock6 ++ first n)] ∧ Below B w w5 ∧ B ≤ w5.heap.size) ∧ Src w5 (.slice (some ⟨g4, 0, none⟩) 6 6) lock6 ∧ w5.rangeAt g5 0 (ints .u8 (first n))) := ⟨⟨G4.out.1.1.below hb5, G4.out.1.2.1.trans (hb5.mono G4.out.1.2.2), Nat.le_trans G4.out.1.2.2 hb5.size⟩, G4.out.2.below hb5, hr5⟩
  clear ho5 hb5 hr5 G4
  go_wp2_with (first | with_reducible (refine stop_builtin .append ?_))
  refine Stop.go ?_
  have hfl := first_length n
  have hgr : ∃ v' w', (Builtin.append_ #[23, 23] 23 #[.slice (some ⟨g4, 0, none⟩) 6 6, .slice (some ⟨g5, 0, none⟩) 6 c5]).run Tryd.prog w5 = .ok v' w' ∧ w'.ownsRow w5.heap.size 5 1 v' (lock6 ++ first n).length (ints .u8 (lock6 ++ first n)) ∧ Below w5.heap.size w5 w' := by
    have h := run_grow (w := w5) (base := w5.heap.size) (ad := ⟨g4, 0, none⟩) (l := lock6) (news := first n) (ty := 23) (a := ⟨g5, 0, none⟩) (c := c5) (Nat.le_refl _) (fun j u hu => by
      rw [Addr.add_mid]
      obtain ⟨_, ⟨e, _⟩ | ⟨_, _, e, e2⟩ | ⟨b, o, c, e, _, hr⟩⟩ := G5.out.2.1
      · cases e
      · exact absurd e2 (by decide)
      · simp only [Value.slice.injEq, Option.some.injEq, Addr.mk.injEq] at e
        obtain ⟨⟨rfl, rfl, -⟩, -, -⟩ := e
        exact hr j u hu) (fun j u hu => by rw [Addr.add_mid]; exact G5.out.2.2 j u hu) (by rw [hfl]; decide) (by rw [hfl]; decide)
    rw [hfl] at h
    exact h
  obtain ⟨v6, w6, hr6, ho6, hb6⟩ := hgr
  refine wpList_append_run rfl _ _ #[23, 23] rfl _ _ v6 w6 rfl rfl hr6 ?_
  have hs6 : ∀ x ∈ lock6 ++ first n, x < 256 := fun x hx => by
    rcases List.mem_append.1 hx with e | e
    · exact (by decide : ∀ x ∈ lock6, x < 256) x e
    · exact first_small n x e
  have G6 : Hid ((OneR B w6 p c [] [S2.Sp.sum (lock6 ++ first n)] ∧ Below B w w6 ∧ B ≤ w6.heap.size) ∧ Src w6 v6 (lock6 ++ first n)) := ⟨⟨G5.out.1.1.below hb6, G5.out.1.2.1.trans (hb6.mono G5.out.1.2.2), Nat.le_trans G5.out.1.2.2 hb6.size⟩, Src.own hs6 ho6⟩
  have HLL : Hid ((lock6 ++ first n).length ≤ 900) := by show _ ≤ _; rw [List.length_append, hfl]; decide
  clear hr6 ho6 hb6 hs6 hfl G5
  go_wp2_with fail
  refine (rs_src G6.out.2 HLL.out).mono ?_
  rintro e w7 ⟨sq, sc, rfl, ho7, hb7⟩
  have G7 : Hid ((OneR B w7 p c [] [S2.Sp.sum (lock6 ++ first n)] ∧ Below B w w7 ∧ B ≤ w7.heap.size) ∧ By B w7 (.slice sq 32 sc) (S2.Sp.sum (lock6 ++ first n))) := ⟨⟨G6.out.1.1.below hb7, G6.out.1.2.1.trans (hb7.mono G6.out.1.2.2), Nat.le_trans G6.out.1.2.2 hb7.size⟩, By.own (sum_small _) ho7⟩
  clear ho7 hb7 G6 HLL
  obtain ⟨s0, HS0⟩ : ∃ s0, Hid (S2.Sp.sum (lock6 ++ first n) = s0) := ⟨_, rfl⟩
  have HS00 : Hid (s0.length = 32 ∧ ∀ x ∈ s0, x < 256) := by rw [← HS0.out]; exact ⟨S2.sum_length _, sum_small _⟩
  rw [HS0.out] at G7
  clear HS0
  go_wp2_with fail
  go_loopw [7, 42] (fun hv i wr => ∃ (j : Nat) (ls ss : List (List Nat)) (s : List Nat) (zq : Option Addr) (zc : Nat), j ≤ n1 ∧ i = .int .i64 j ∧ hv = .slice zq 32 zc ∧ Hid ((OneR B wr p c ls ss ∧ Below B w wr ∧ B ≤ wr.heap.size) ∧ By B wr (.slice zq 32 zc) s) ∧ Hid (ls.length = j ∧ ss.length = j + 1 ∧ ss[ls.length]? = some s ∧ s.length = 32 ∧ ∀ x ∈ s, x < 256)) (fun _ i _ => n1 - (intOf i).toNat)
  case atStart => exact ⟨0, [], [s0], s0, sq, sc, by omega, rfl, rfl, G7.out, rfl, rfl, rfl, HS00.out⟩
  case round =>
    obtain ⟨j, ls, ss, s, zq, zc, hj, rfl, rfl, GJ, HC⟩ := hrel
    clear G7 HS00
    have j0 : (0 : Int) ≤ (j : Int) := by omega
    by_cases hlt : j < n1
    · have j1 : (j : Int) < (n1 : Int) := by omega
      have ja : j < al.length := by rw [HN1.out]; exact hlt
      obtain ⟨b, o, pp, cc, hq, hcl, hby⟩ := H1.out.at HBE.out GJ.out.1.2.1 ja
      subst hq
      have h3 := HSML1.out _ (List.getElem_mem ja)
      generalize al[j] = y at *
      have HBY : Hid (By B wr (.slice pp y.length cc) y) := hby
      have HY3 : Hid (y.length ≤ 300) := h3
      clear hby ja
      by_cases hy : y.length < 1
      · have HAP : Hid (Calls Tryd.prog 14 #[.pointer (some ⟨c, 0, none⟩), .slice pp y.length cc] wr fun e w' => e = .returned (.int .i64 11) ∧ w' = wr) := rl_size GJ.out.1.1 (.inl hy)
        have hy0 : y.length = 0 := by omega
        rw [hy0] at HAP hcl
        clear hy h3 HBY HY3 hy0
        go_wp2_with fail
        refine HAP.out.mono ?_
        rintro e w9 ⟨rfl, hw9⟩
        obtain rfl : wr = w9 := hw9.symm
        clear hw9 HAP
        go_wp2_with fail
        go_ret
        exact ⟨rfl, GJ.out.1.2.1⟩
      · have HAP : Hid (Calls Tryd.prog 14 #[.pointer (some ⟨c, 0, none⟩), .slice pp y.length cc] wr fun e w' => e = .returned (.int .i64 0) ∧ OneR B w' p c (ls ++ [y]) (ss ++ [S2.Sp.sum (s ++ y)]) ∧ Kx TS B wr w') := rl_append GJ.out.1.1 HBY.out (by omega) (by have := HC.out.1; omega) HC.out.2.2.1 (by have := HC.out.2.2.2.1; omega) (by have := HC.out.2.1; omega)
        have hyp : (0 : Int) < (y.length : Int) := by omega
        obtain ⟨yl, HYL⟩ : ∃ yl, Hid (y.length = yl) := ⟨_, rfl⟩
        rw [HYL.out] at HAP hcl hyp HBY
        clear hy h3
        go_wp2_with (first | with_reducible (refine stop_builtin .append ?_))
        refine HAP.out.mono ?_
        rintro e w8 ⟨rfl, ho8, hk8⟩
        have G8 : Hid ((OneR B w8 p c (ls ++ [y]) (ss ++ [S2.Sp.sum (s ++ y)]) ∧ Below B w w8 ∧ B ≤ w8.heap.size) ∧ Src w8 (.slice zq 32 zc) s ∧ Src w8 (.slice pp yl cc) y) := ⟨⟨ho8, GJ.out.1.2.1.trans hk8.low, Nat.le_trans GJ.out.1.2.2 hk8.low.size⟩, (GJ.out.2.kx hk8 (by decide)).src, (HBY.out.kx hk8 (by decide)).src⟩
        clear ho8 hk8 GJ HBY HAP hcl
        go_wp2_with (first | with_reducible (refine stop_builtin .append ?_))
        refine Stop.go ?_
        have hb5 : Below w8.heap.size w8 (w8.alloc (.cells #[] 5)) := below_alloc' w8 _
        have he : (w8.alloc (.cells #[] 5)).ownsRow w8.heap.size 5 1 (.slice (some ⟨w8.heap.size, 0, none⟩) 0 0) 0 (ints .u8 []) :=
          ⟨rfl, .inr ⟨w8.heap.size, 0, #[], rfl, Nat.le_refl _, heap_alloc_new w8 _, Nat.le_refl _, by unfold maxLen; decide, rfl, rfl⟩⟩
        refine law_append_src w8.heap.size _ 0 [] _ s rfl rfl he (G8.out.2.1.below hb5) (by have := HC.out.2.2.2.1; omega) (by simp) ?_
        intro u9 w9 ho9 hg9
        have hb9 : Below w8.heap.size w8 w9 := hb5.trans (below_append he hg9 (by simp))
        rw [HC.out.2.2.2.1, Nat.zero_add, List.nil_append] at ho9
        obtain ⟨uq, uc, rfl⟩ := own_slice ho9
        have G9 : Hid (Below w8.heap.size w8 w9 ∧ w9.ownsRow w8.heap.size 5 1 (.slice uq 32 uc) 32 (ints .u8 s) ∧ Src w9 (.slice pp yl cc) y) := ⟨hb9, ho9, G8.out.2.2.below hb9⟩
        clear ho9 hg9 hb9 hb5 he
        go_wp2_with (first | with_reducible (refine stop_builtin .append ?_))
        refine Stop.go ?_
        refine law_append_src w8.heap.size _ 32 s _ y rfl rfl G9.out.2.1 G9.out.2.2 (by have := HY3.out; omega) G9.out.1.size ?_
        intro u10 w10 ho10 hg10
        have hb10 : Below w8.heap.size w8 w10 := G9.out.1.trans (below_append G9.out.2.1 hg10 G9.out.1.size)
        have hsy : ∀ x ∈ s ++ y, x < 256 := fun x hx => (List.mem_append.1 hx).elim (HC.out.2.2.2.2 x) (G9.out.2.2.small x)
        obtain ⟨uq2, uc2, hu10⟩ := own_slice ho10
        subst hu10
        rw [HYL.out] at ho10 ⊢
        have G10 : Hid (Src w10 (.slice uq2 (32 + yl) uc2) (s ++ y) ∧ (s ++ y).length ≤ 900) := ⟨Src.own hsy ho10, by rw [List.length_append]; have := HC.out.2.2.2.1; have := HY3.out; omega⟩
        have H10 : Hid ((OneR B w10 p c (ls ++ [y]) (ss ++ [S2.Sp.sum (s ++ y)]) ∧ Below B w w10 ∧ B ≤ w10.heap.size)) := ⟨G8.out.1.1.below hb10, G8.out.1.2.1.trans (hb10.mono G8.out.1.2.2), Nat.le_trans G8.out.1.2.2 hb10.size⟩
        clear ho10 hg10 hb10 hsy G9 G8
        obtain ⟨yy, HYY⟩ : ∃ yy, Hid (32 + yl = yy) := ⟨_, rfl⟩
        rw [HYY.out] at G10 ⊢
        go_wp2_with fail
        refine (rs_src G10.out.1 G10.out.2).mono ?_
        rintro e w11 ⟨vq, vc, rfl, ho11, hb11⟩
        have G11 : Hid ((OneR B w11 p c (ls ++ [y]) (ss ++ [S2.Sp.sum (s ++ y)]) ∧ Below B w w11 ∧ B ≤ w11.heap.size) ∧ By B w11 (.slice vq 32 vc) (S2.Sp.sum (s ++ y))) := ⟨⟨H10.out.1.below hb11, H10.out.2.1.trans (hb11.mono H10.out.2.2), Nat.le_trans H10.out.2.2 hb11.size⟩, By.own (sum_small _) ho11⟩
        clear ho11 hb11 H10 G10
        have HC2 : Hid ((ls ++ [y]).length = j + 1 ∧ (ss ++ [S2.Sp.sum (s ++ y)]).length = j + 1 + 1 ∧ (ss ++ [S2.Sp.sum (s ++ y)])[(ls ++ [y]).length]? = some (S2.Sp.sum (s ++ y)) ∧ (S2.Sp.sum (s ++ y)).length = 32 ∧ ∀ x ∈ S2.Sp.sum (s ++ y), x < 256) := by
          have e1 := HC.out.1
          have e2 := HC.out.2.1
          refine ⟨by rw [List.length_append, e1]; rfl, by rw [List.length_append, e2]; rfl, ?_, S2.sum_length _, sum_small _⟩
          rw [List.getElem?_append_right (by rw [List.length_append, e1, e2]; exact Nat.le_refl _), List.length_append, e1, e2]
          simp
        go_wp2_with fail
        refine ⟨⟨j + 1, ls ++ [y], ss ++ [S2.Sp.sum (s ++ y)], S2.Sp.sum (s ++ y), vq, vc, by omega, by simp, rfl, G11.out, HC2.out⟩, ?_⟩
        simp only [intOf]
        omega
    · have j1 : ¬ (j : Int) < (n1 : Int) := by omega
      have hbd : Below wr.heap.size wr wr.drew := below_drewN 1 wr _
      have HHD : Hid (Calls Tryd.prog 17 #[.pointer (some ⟨c, 0, none⟩)] wr.drew fun e w' => ∃ uq uc, e = .returned (.agg #[.int .i64 (j : Int), .slice uq 32 uc]) ∧ (convert 23 9 (.slice uq 32 uc)).run Tryd.prog w' = .ok (.string (strB s)) w' ∧ (convert 23 9 (.slice zq 32 zc)).run Tryd.prog w' = .ok (.string (strB s)) w' ∧ Below B w w') := by
        refine (rl_head (GJ.out.1.1.below hbd) HC.out.2.2.1 (by have := HC.out.2.2.2.1; omega)).mono ?_
        rintro e w' ⟨u, rfl, ho, hb⟩
        rw [HC.out.2.2.2.1] at ho
        obtain ⟨uq, uc, rfl⟩ := own_slice ho
        have hb' : Below wr.heap.size wr w' := hbd.trans hb
        exact ⟨uq, uc, by rw [HC.out.1], conv_src (Src.own HC.out.2.2.2.2 ho), conv_src (GJ.out.2.src.below hb'), GJ.out.1.2.1.trans (hb'.mono GJ.out.1.2.2)⟩
      have hcz : (convert 23 9 (.slice zq 32 zc)).run Tryd.prog wr.drew = .ok (.string (strB s)) wr.drew := conv_src (GJ.out.2.src.below hbd)
      have hqq : ((strB s).toList == (strB s).toList) = true := by simp
      clear hbd GJ HC
      generalize strB s = st at *
      go_wp2_with fail
      go_region_law ((first | (refine step_call1 rfl 17 cf17r (.tmp 60) #[32] rfl _ rfl (HHD.out.mono ?_); rintro e w9 ⟨uq, uc, rfl, k1, k2, k3⟩; refine ⟨_, rfl, ?_⟩; have hf44 := field44_1 (.int .i64 (j : Int)) (.slice uq 32 uc) w9)))
      all_goals
        go_wp2_with fail
        go_ret
        exact ⟨rfl, k3⟩
theorem real_law (w : World) (z : Int) (a1 : Option Addr) (n1 c1 : Nat) (hT : S2.Tab w) (h1 : n1 ≤ 9223372036854775807 ∧ ∃ ls : List (List Nat), ls.length = n1 ∧ RowsIs w a1 ls) :
    Calls Tryd.prog 4 #[.int .i64 z, .slice a1 n1 c1] w fun e w' => e = .returned (.bool true) ∧ Below w.heap.size w w' := by
  obtain ⟨x1, al, l1, r1⟩ := h1
  by_cases k0 : 4 < n1
  · exact rl_o1 w z a1 n1 c1 x1 k0
  cases s1 : sml al with
  | false => exact rl_o2 w z a1 n1 c1 al r1 l1 (by omega) s1
  | true =>
    by_cases hz : z < 1 ∨ 1099511627776 < z
    · exact rl_o3 w z a1 n1 c1 al r1 l1 (by omega) s1 hz
    · obtain ⟨n, rfl⟩ := Int.eq_ofNat_of_zero_le (a := z) (by omega)
      exact rl_main w n a1 n1 c1 al r1 l1 (by omega) s1 hT (by omega)
end Go.Proofs.YtkiohhkmlpgdoaaDoor.S7
