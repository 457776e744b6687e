/- ChainGrows: the main way. -/
import Derived.Test.YtkiohhkmlpgdoaaDoorC12GrB
namespace Go.Proofs.YtkiohhkmlpgdoaaDoor.S7
open Go.RowKit
set_option maxHeartbeats 16000000 in
set_option maxRecDepth 20000 in
theorem gr_main (w : World) (a1 : Option Addr) (n1 c1 : Nat) (al : List (List Nat)) (h1 : RowsIs w a1 al) (hn1 : al.length = n1) (hs1 : sml al = true) (k0 : n1 ≤ 30) :
    Calls Tryd.prog 7 #[.slice a1 n1 c1] w fun e w' => e = .returned (.bool true) ∧ Below w.heap.size w w' := by
  obtain ⟨B, hBe⟩ : ∃ B, B = w.heap.size := ⟨_, rfl⟩
  have HBE : Hid (B = w.heap.size) := hBe
  rw [← hBe]
  clear hBe
  have H1 : Hid (RowsIs w a1 al) := h1
  have HN1 : Hid (al.length = n1) := hn1
  have HS1 : Hid (sml al = true) := hs1
  have HSML1 : Hid (∀ y ∈ al, y.length ≤ 300) := by
    show ∀ y ∈ al, y.length ≤ 300
    unfold sml at hs1
    exact of_decide_eq_true (Bool.and_eq_true_iff.1 hs1).1
  have q0 : ¬ (30 : Int) < (n1 : Int) := by omega
  have z0 : (0 : Int) ≤ (n1 : Int) := by omega
  have z1 : (n1 : Int) ≤ 30 := by omega
  clear h1 hn1 hs1
  go_enter Tryd.func7, Tryd.ntmps7
  go_wp2_with fail
  refine (anchor_any w).mono ?_
  rintro e w1 ⟨rfl, hb1⟩
  have HB1 : Hid (Below w.heap.size w w1) := hb1
  clear hb1
  go_wp2_with fail
  refine (small_any w w1 a1 n1 c1 al H1.out HB1.out HN1.out (by omega) (s := true) HS1.out).mono ?_
  rintro e w9 ⟨rfl, hw9⟩
  obtain rfl : w1 = w9 := hw9.symm
  clear hw9
  go_wp2_with fail
  have G1 : Hid (Below B w w1 ∧ B ≤ w1.heap.size) := ⟨by rw [HBE.out]; exact HB1.out, by rw [HBE.out]; exact HB1.out.size⟩
  clear HB1 HS1
  refine (Signs_new w1).mono ?_
  rintro e w2 ⟨p, q, m, x, rfl, hs, hb⟩
  have G2 : Hid (Sw B w2 p q m x [] ∧ Below B w w2 ∧ B ≤ w2.heap.size) := ⟨⟨hs.su, by have := hs.lo; have := G1.out.2; omega⟩, G1.out.1.trans (hb.mono G1.out.2), Nat.le_trans G1.out.2 hb.size⟩
  clear hs hb G1
  go_wp2_with fail
  refine (one_new (n := 1) G2.out.1 (by simp) G2.out.2.2 (by omega)).mono ?_
  rintro e w3 ⟨c, rfl, ho, hk⟩
  have G3 : Hid (One B w3 p q m x c L1 [] [r0] ∧ Below B w w3 ∧ B ≤ w3.heap.size) := ⟨ho, G2.out.2.1.trans hk.low, Nat.le_trans G2.out.2.2 hk.low.size⟩
  clear ho hk G2
  go_wp2_with fail
  go_loopw [5, 33] (fun hv i wr => ∃ (j : Nat) (L : List Su.Thing) (ls ss : List (List Nat)) (zs : List (Nat × Value)) (ms : List (List Nat)) (zq : Option Addr) (zc : Nat), j ≤ n1 ∧ i = .int .i64 j ∧ hv = .slice zq j zc ∧ Hid (One B wr p q m x c L ls ss ∧ Below B w wr ∧ B ≤ wr.heap.size) ∧ Hid (HdR B wr (.slice zq j zc) zs ms) ∧ Hid (zs.length = j) ∧ Hid (Chn L 1 ls ss ∧ ls.length ≤ j ∧ L.length ≤ j + 1 ∧ ∀ (i : Nat) (z : Nat × Value) (l9 : List Nat), zs[i]? = some z → ms[i]? = some l9 → z.1 ≤ ls.length ∧ ss[z.1]? = some l9)) (fun _ i _ => n1 - (intOf i).toNat)
  case atStart => exact ⟨0, L1, [], [r0], [], [], none, 0, by omega, rfl, rfl, G3.out, HdR.nil _ _, rfl, Chn.new [] 1, Nat.le_refl _, lens.1, fun i z l h _ => by simp at h⟩
  case round =>
    obtain ⟨j, L, ls, ss, zs, ms, zq0, zc0, hj, rfl, rfl, GJ, GH, HZ0, HC⟩ := hrel
    clear G3
    have j0 : (0 : Int) ≤ (j : Int) := by omega
    by_cases hlt : j < n1
    · have j1 : (j : Int) < (n1 : Int) := by omega
      have ja : j < al.length := by rw [HN1.out]; exact hlt
      obtain ⟨b, o, pp, cc, hq, hcl, hby⟩ := H1.out.at HBE.out GJ.out.2.1 ja
      subst hq
      have h3 := HSML1.out _ (List.getElem_mem ja)
      generalize al[j] = y at *
      have HBY : Hid (By B wr (.slice pp y.length cc) y) := hby
      clear hby ja
      obtain ⟨l, hl⟩ := HC.out.1.last
      have hl32 := HC.out.1.size hl
      go_wp2_with (first | with_reducible (refine stop_builtin .append ?_))
      refine (one_head GJ.out.1 hl (by omega)).mono ?_
      rintro e w5 ⟨u, rfl, ho, hb5⟩
      rw [hl32.1] at ho
      obtain ⟨uq, uc, rfl⟩ := own_slice ho
      have G5 : Hid ((One B w5 p q m x c L ls ss ∧ Below B w w5 ∧ B ≤ w5.heap.size) ∧ HdR B w5 (.slice zq0 j zc0) zs ms ∧ By B w5 (.slice uq 32 uc) l ∧ By B w5 (.slice pp y.length cc) y) := ⟨⟨GJ.out.1.below hb5, GJ.out.2.1.trans (hb5.mono GJ.out.2.2), Nat.le_trans GJ.out.2.2 hb5.size⟩, GH.out.below hb5, By.own hl32.2 ho, HBY.out.below hb5⟩
      clear ho hb5 GJ GH HBY hcl
      go_wp2_with (first | with_reducible (refine stop_builtin .append ?_))
      refine Stop.go ?_
      have hba := below_alloc' w5 (.cells #[.int .i64 (ls.length : Int), .slice uq 32 uc] 44)
      have hh5 := G5.out.2.1.below hba
      refine law_append_h B (.slice zq0 j zc0) j (hcs zs) w5.heap.size [.int .i64 (ls.length : Int), .slice uq 32 uc] rfl (by rfl) rfl (by have := hh5.own; rw [HZ0.out] at this; exact this) (rangeAt_of_row (t := 44) (fr := (0, 0)) (heap_alloc_new w5 _)) (by simp; exact ⟨rfl, rfl⟩) (by omega) (Nat.le_trans G5.out.1.2.2 hba.size) ?_
      intro v6 w6 h6 hg6
      have hp6 := hh5.push (n := ls.length) (x := .slice uq 32 uc) (l := l) (by rw [HZ0.out]; exact h6) hg6 (G5.out.2.2.1.below hba) (Nat.le_trans G5.out.1.2.2 hba.size)
      have hkx : Kx [some 44] B w5 w6 := (Kx.of_below hba G5.out.1.2.2).trans (by
        obtain ⟨_, ⟨e7, _⟩ | ⟨g, cap, cur, e7, hgB, hh, _⟩⟩ := hh5.own
        · rw [e7] at hg6
          exact Kx.of_only (Only.of_grown (bs := []) hg6 (fun y hy => by cases hy)) (Nat.le_trans G5.out.1.2.2 hba.size) (fun y hy => by cases hy)
        · rw [e7] at hg6
          refine Kx.of_only (Only.of_grown (bs := [g]) hg6 (fun y hy => by cases hy; simp)) (Nat.le_trans G5.out.1.2.2 hba.size) (fun y hy => ?_)
          rw [List.mem_singleton.1 hy]
          exact ⟨hgB, fun o ho => by rw [hh] at ho; cases ho; simp [tyOf]⟩)
      obtain ⟨zq, zc, hv6⟩ := hp6.slice
      subst hv6
      obtain ⟨n3, HN3⟩ : ∃ n3, Hid (n3 = j + 1) := ⟨_, rfl⟩
      have HZL : Hid ((zs ++ [(ls.length, Value.slice uq 32 uc)]).length = n3) := by rw [List.length_append, HZ0.out, HN3.out]; rfl
      rw [HZL.out] at hp6 ⊢
      have n3a : (n3 : Int) ≤ 31 := by have := HN3.out; omega
      have n3b : (0 : Int) ≤ (n3 : Int) := by omega
      have G6 : Hid ((One B w6 p q m x c L ls ss ∧ Below B w w6 ∧ B ≤ w6.heap.size) ∧ HdR B w6 (.slice zq n3 zc) (zs ++ [(ls.length, Value.slice uq 32 uc)]) (ms ++ [l]) ∧ By B w6 (.slice pp y.length cc) y) := ⟨⟨G5.out.1.1.far hkx, G5.out.1.2.1.trans hkx.low, Nat.le_trans G5.out.1.2.2 hkx.low.size⟩, hp6, G5.out.2.2.2.kx hkx (by decide)⟩
      have HC6 : Hid (Chn L 1 ls ss ∧ ls.length ≤ j ∧ L.length ≤ j + 1 ∧ ∀ (i : Nat) (z : Nat × Value) (l9 : List Nat), (zs ++ [(ls.length, Value.slice uq 32 uc)])[i]? = some z → (ms ++ [l])[i]? = some l9 → z.1 ≤ ls.length ∧ ss[z.1]? = some l9) := ⟨HC.out.1, HC.out.2.1, HC.out.2.2.1, fun i z l' h7 h8 => by
        rcases snoc_get h7 with ⟨a1, a2⟩ | ⟨a1, rfl⟩
        · rcases snoc_get h8 with ⟨b1, b2⟩ | ⟨b1, _⟩
          · exact HC.out.2.2.2 i z l' a2 b2
          · have h9 := G5.out.2.1.len; omega
        · rcases snoc_get h8 with ⟨b1, b2⟩ | ⟨b1, e9⟩
          · have h9 := G5.out.2.1.len; omega
          · exact ⟨Nat.le_refl _, by rw [e9]; exact hl⟩⟩
      generalize zs ++ [(ls.length, Value.slice uq 32 uc)] = zs' at *
      generalize ms ++ [l] = ms' at *
      clear hp6 h6 hg6 hkx hba hh5 G5 HC HZ0
      go_wp2_with fail
      refine (one_len G6.out.1.1).mono ?_
      rintro e w9 ⟨rfl, hw9⟩
      obtain rfl : w6 = w9 := hw9.symm
      clear hw9
      have HMS : Hid (ss.length ≤ 1000 ∧ L.length < 1000000 ∧ ls.length < 64) := ⟨by rw [HC6.out.1.len]; have := HC6.out.2.1; omega, by have := HC6.out.2.2.1; omega, by have := HC6.out.2.1; omega⟩
      by_cases hy : y.length < 1
      · obtain ⟨lv, sv, hch⟩ := G6.out.1.1.ch
        have HAP : Hid (Calls Tryd.prog 14 #[.pointer (some ⟨c, 0, none⟩), .slice pp y.length cc] w6 fun e w' => e = .returned (.int .i64 11) ∧ w' = w6) := Append_size B c p lv sv ls ss w6 pp y.length cc hch (.inl hy)
        have hy0 : y.length = 0 := by omega
        rw [hy0] at HAP ⊢
        obtain ⟨L', hL'⟩ : ∃ L', L' = L := ⟨_, rfl⟩
        obtain ⟨ls', hls'⟩ : ∃ ls', ls' = ls := ⟨_, rfl⟩
        obtain ⟨ss', hss'⟩ : ∃ ss', ss' = ss := ⟨_, rfl⟩
        have G8 : Hid ((One B w6 p q m x c L' ls' ss' ∧ Below B w w6 ∧ B ≤ w6.heap.size) ∧ HdR B w6 (.slice zq n3 zc) zs' ms') := ⟨by rw [hL', hls', hss']; exact G6.out.1, G6.out.2.1⟩
        have HC8 : Hid (Chn L' 1 ls' ss' ∧ ls'.length ≤ n3 ∧ L'.length ≤ n3 + 1 ∧ ∀ (i : Nat) (z : Nat × Value) (l9 : List Nat), zs'[i]? = some z → ms'[i]? = some l9 → z.1 ≤ ls'.length ∧ ss'[z.1]? = some l9) := by
          rw [hL', hls', hss']
          exact ⟨HC6.out.1, by rw [HN3.out]; exact Nat.le_succ_of_le HC6.out.2.1, by rw [HN3.out]; exact Nat.le_succ_of_le HC6.out.2.2.1, HC6.out.2.2.2⟩
        clear hch HC6 hl hl32 G6 hL' hls' hss' hy hy0 HMS h3
        go_wp2_with fail
        refine HAP.out.mono ?_
        rintro e w9 ⟨rfl, hw9⟩
        obtain rfl : w6 = w9 := hw9.symm
        clear hw9 HAP
        go_wp2_with fail
        go_loopw [66] (fun i wr => ∃ (k : Nat), k ≤ n3 ∧ i = .int .i64 k ∧ Hid ((One B wr p q m x c L' ls' ss' ∧ Below B w wr ∧ B ≤ wr.heap.size) ∧ HdR B wr (.slice zq n3 zc) zs' ms')) (fun i _ => n3 - (intOf i).toNat)
        case atStart => exact ⟨0, by omega, rfl, G8.out⟩
        case round =>
          obtain ⟨k, hk, rfl, GK⟩ := hrel
          clear G8
          have k0' : (0 : Int) ≤ (k : Int) := by omega
          by_cases hlk : k < n3
          · have k1' : (k : Int) < (n3 : Int) := by omega
            have hkz : k < zs'.length := by rw [HZL.out]; exact hlk
            have hkm : k < ms'.length := by rw [GK.out.2.len]; exact hkz
            have ez : zs'[k]? = some zs'[k] := List.getElem?_eq_getElem hkz
            have em : ms'[k]? = some ms'[k] := List.getElem?_eq_getElem hkm
            obtain ⟨f1, f2⟩ := HC8.out.2.2.2 k _ _ ez em
            have fby := GK.out.2.all k _ _ ez em
            obtain ⟨gz, cz, e3, d0, d1⟩ := GK.out.2.at ez
            simp only [Value.slice.injEq] at e3
            obtain ⟨rfl, -, -⟩ := e3
            have hm32 := HC8.out.1.size f2
            generalize zs'[k] = z at *
            generalize ms'[k] = ml at *
            obtain ⟨zi, zv⟩ := z
            simp only at f1 f2 fby d0 d1
            obtain ⟨vp, vc, e4, -⟩ := fby.src.slice
            subst e4
            rw [hm32.1] at fby d1
            have HBY : Hid (By B wr (.slice vp 32 vc) ml) := fby
            clear fby ez em hkz hkm
            obtain ⟨wa, HWA⟩ : ∃ wa, Hid (wr.alloc (.cells #[.int .i64 (zi : Int), .slice vp 32 vc] 44) = wa) := ⟨_, rfl⟩
            have hba : Below wr.heap.size wr wa := by rw [← HWA.out]; exact below_alloc' wr _
            have hza : wa.heap[wr.heap.size]? = some (.cells #[.int .i64 (zi : Int), .slice vp 32 vc] 44 (0, 0)) := by rw [← HWA.out]; exact heap_alloc_new wr _
            have za0 : wa.cell? ⟨wr.heap.size, 0, none⟩ = some (.int .i64 (zi : Int)) := by rw [cell_of_row _ _ _ _ _ _ hza]; rfl
            obtain ⟨ga, hga⟩ : ∃ ga, ga = wr.heap.size := ⟨_, rfl⟩
            have GA : Hid ((((One B wa p q m x c L' ls' ss' ∧ Below B w wa ∧ B ≤ wa.heap.size) ∧ HdR B wa (.slice (some ⟨gz, 0, none⟩) n3 zc) zs' ms')) ∧ By B wa (.slice vp 32 vc) ml ∧ wa.heap[ga]? = some (.cells #[.int .i64 (zi : Int), .slice vp 32 vc] 44 (0, 0))) := ⟨⟨⟨GK.out.1.1.below hba, GK.out.1.2.1.trans (hba.mono GK.out.1.2.2), Nat.le_trans GK.out.1.2.2 hba.size⟩, GK.out.2.below hba⟩, HBY.out.below hba, by rw [hga]; exact hza⟩
            rw [← HWA.out] at za0
            clear hba hza GK HBY
            go_wp2_with fail
            rw [HWA.out]
            rw [← hga]
            clear za0 d0 d1 HWA hga
            refine (one_at GA.out.1.1.1 f1 f2 (by omega)).mono ?_
            rintro e wb ⟨u2, rfl, ho, hbb⟩
            rw [hm32.1] at ho
            obtain ⟨uq2, uc2, rfl⟩ := own_slice ho
            obtain ⟨wc, HWC⟩ : ∃ wc, Hid (wb.alloc (.cells #[.int .i64 (zi : Int), .slice uq2 32 uc2] 44) = wc) := ⟨_, rfl⟩
            have hbc : Below wb.heap.size wb wc := by rw [← HWC.out]; exact below_alloc' wb _
            have hzc : wc.heap[wb.heap.size]? = some (.cells #[.int .i64 (zi : Int), .slice uq2 32 uc2] 44 (0, 0)) := by rw [← HWC.out]; exact heap_alloc_new wb _
            have hbac : Below wa.heap.size wa wc := hbb.trans (hbc.mono hbb.size)
            have hga2 : wc.heap[ga]? = some (.cells #[.int .i64 (zi : Int), .slice vp 32 vc] 44 (0, 0)) := (hbac.block ga (Array.getElem?_eq_some_iff.1 GA.out.2.2).1).trans GA.out.2.2
            have GC : Hid ((((One B wc p q m x c L' ls' ss' ∧ Below B w wc ∧ B ≤ wc.heap.size) ∧ HdR B wc (.slice (some ⟨gz, 0, none⟩) n3 zc) zs' ms')) ∧ By B wc (.slice vp 32 vc) ml) := ⟨⟨⟨GA.out.1.1.1.below hbac, GA.out.1.1.2.1.trans (hbac.mono GA.out.1.1.2.2), Nat.le_trans GA.out.1.1.2.2 hbac.size⟩, GA.out.1.2.below hbac⟩, GA.out.2.1.below hbac⟩
            have hcv1 := conv_src (GC.out.2.src)
            have hcv2 := conv_src ((Src.own hm32.2 ho).below hbc)
            have hqq : ((strB ml).toList == (strB ml).toList) = true := by simp
            have x1 : wc.cell? ⟨wb.heap.size, 1, none⟩ = some (.slice uq2 32 uc2) := by rw [cell_of_row _ _ _ _ _ _ hzc]; rfl
            have y0 : wc.cell? ⟨ga, 0, none⟩ = some (.int .i64 (zi : Int)) := by rw [cell_of_row _ _ _ _ _ _ hga2]; rfl
            have y1 : wc.cell? ⟨ga, 1, none⟩ = some (.slice vp 32 vc) := by rw [cell_of_row _ _ _ _ _ _ hga2]; rfl
            rw [← HWC.out] at hcv1 hcv2 x1 y0 y1
            clear ho hbb hbc hzc hbac hga2 GA
            generalize strB ml = sml' at *
            go_wp2_with fail
            rw [HWC.out]
            refine (one_check GC.out.1.1.1 f1 f2 GC.out.2.src (if_pos rfl)).mono ?_
            rintro e wd ⟨rfl, hbd⟩
            have GD : Hid ((One B wd p q m x c L' ls' ss' ∧ Below B w wd ∧ B ≤ wd.heap.size) ∧ HdR B wd (.slice (some ⟨gz, 0, none⟩) n3 zc) zs' ms') := ⟨⟨GC.out.1.1.1.below hbd, GC.out.1.1.2.1.trans (hbd.mono GC.out.1.1.2.2), Nat.le_trans GC.out.1.1.2.2 hbd.size⟩, GC.out.1.2.below hbd⟩
            clear hbd GC hcv1 hcv2 x1 y0 y1 HWC
            go_wp2_with fail
            refine ⟨⟨k + 1, by omega, by simp, GD⟩, ?_⟩
            simp only [intOf]
            omega
          · obtain rfl : k = n3 := by omega
            have k1' : ¬ (k : Int) < (k : Int) := by omega
            have HC9 := HC8.out
            have hkj : k = j + 1 := HN3.out
            have hkj2 : ((k : Nat) : Int) = (j : Int) + 1 := by omega
            have HKJ : Hid (k = j + 1) := hkj
            clear hkj hkj2
            go_wp2_with fail
            refine ⟨⟨k, L', ls', ss', zs', ms', zq, zc, by have := HKJ.out; omega, by rw [HKJ.out]; simp, rfl, GK.out.1, GK.out.2, HZL, ⟨HC9.1, HC9.2.1, HC9.2.2.1, HC9.2.2.2⟩⟩, ?_⟩
            have hkj := HKJ.out
            simp only [intOf]
            omega
      · have HAP := one_append G6.out.1.1 HMS.out.2.1 G6.out.2.2 (by omega) HMS.out.2.2 hl (by omega) HMS.out.1
        obtain ⟨L', hL'⟩ : ∃ L', L' = ad L (l ++ y) := ⟨_, rfl⟩
        obtain ⟨ls', hls'⟩ : ∃ ls', ls' = ls ++ [y] := ⟨_, rfl⟩
        obtain ⟨ss', hss'⟩ : ∃ ss', ss' = ss ++ [sg L (l ++ y)] := ⟨_, rfl⟩
        rw [← hL', ← hls', ← hss'] at HAP
        have HLL : Hid (ls'.length = ls.length + 1) := by show _ = _; rw [hls']; simp
        have HC8 : Hid (Chn L' 1 ls' ss' ∧ ls'.length ≤ n3 ∧ L'.length ≤ n3 + 1 ∧ ∀ (i : Nat) (z : Nat × Value) (l9 : List Nat), zs'[i]? = some z → ms'[i]? = some l9 → z.1 ≤ ls'.length ∧ ss'[z.1]? = some l9) := by
          have hpu := HC6.out.1.push (b := y) hl
          refine ⟨by rw [hL', hls', hss']; exact hpu, by rw [HLL.out, HN3.out]; exact Nat.succ_le_succ HC6.out.2.1, by rw [hL', HN3.out]; exact Nat.le_trans (ad_length _ _) (Nat.succ_le_succ HC6.out.2.2.1), fun i z l' h7 h8 => ?_⟩
          obtain ⟨h9, h10⟩ := HC6.out.2.2.2 i z l' h7 h8
          refine ⟨by rw [HLL.out]; omega, ?_⟩
          rw [hss', List.getElem?_append_left (get_lt h10)]
          exact h10
        have HGG : Hid (Below B w w6 ∧ B ≤ w6.heap.size ∧ HdR B w6 (.slice zq n3 zc) zs' ms') := ⟨G6.out.1.2.1, G6.out.1.2.2, G6.out.2.1⟩
        have hyp : (0 : Int) < (y.length : Int) := by omega
        have HAP2 : Hid (Calls Tryd.prog 14 #[.pointer (some ⟨c, 0, none⟩), .slice pp y.length cc] w6 fun e w' => e = .returned (.int .i64 0) ∧ One B w' p q m x c L' ls' ss' ∧ Kx TS B w6 w') := HAP
        clear HC6 hl hl32 G6 hL' hls' hss' hy HMS h3 HAP
        generalize y.length = yl at *
        go_wp2_with fail
        refine HAP2.out.mono ?_
        rintro e w8 ⟨rfl, ho, hk⟩
        have G8 : Hid ((One B w8 p q m x c L' ls' ss' ∧ Below B w w8 ∧ B ≤ w8.heap.size) ∧ HdR B w8 (.slice zq n3 zc) zs' ms') := ⟨⟨ho, HGG.out.1.trans hk.low, Nat.le_trans HGG.out.2.1 hk.low.size⟩, HGG.out.2.2.kx hk⟩
        clear ho hk HAP2 HGG
        have hln : (ls'.length : Int) = (ls.length : Int) + 1 := by have := HLL.out; omega
        have hlb : (ls.length : Int) ≤ 100 := by have := HC8.out.2.1; have := HLL.out; have := HN3.out; omega
        go_wp2_with fail
        refine (one_len G8.out.1.1).mono ?_
        rintro e w9 ⟨rfl, hw9⟩
        obtain rfl : w8 = w9 := hw9.symm
        clear hw9
        rw [hln]
        go_wp2_with fail
        clear hln hlb
        go_loopw [66] (fun i wr => ∃ (k : Nat), k ≤ n3 ∧ i = .int .i64 k ∧ Hid ((One B wr p q m x c L' ls' ss' ∧ Below B w wr ∧ B ≤ wr.heap.size) ∧ HdR B wr (.slice zq n3 zc) zs' ms')) (fun i _ => n3 - (intOf i).toNat)
        case atStart => exact ⟨0, by omega, rfl, G8.out⟩
        case round =>
          obtain ⟨k, hk, rfl, GK⟩ := hrel
          clear G8
          have k0' : (0 : Int) ≤ (k : Int) := by omega
          by_cases hlk : k < n3
          · have k1' : (k : Int) < (n3 : Int) := by omega
            have hkz : k < zs'.length := by rw [HZL.out]; exact hlk
            have hkm : k < ms'.length := by rw [GK.out.2.len]; exact hkz
            have ez : zs'[k]? = some zs'[k] := List.getElem?_eq_getElem hkz
            have em : ms'[k]? = some ms'[k] := List.getElem?_eq_getElem hkm
            obtain ⟨f1, f2⟩ := HC8.out.2.2.2 k _ _ ez em
            have fby := GK.out.2.all k _ _ ez em
            obtain ⟨gz, cz, e3, d0, d1⟩ := GK.out.2.at ez
            simp only [Value.slice.injEq] at e3
            obtain ⟨rfl, -, -⟩ := e3
            have hm32 := HC8.out.1.size f2
            generalize zs'[k] = z at *
            generalize ms'[k] = ml at *
            obtain ⟨zi, zv⟩ := z
            simp only at f1 f2 fby d0 d1
            obtain ⟨vp, vc, e4, -⟩ := fby.src.slice
            subst e4
            rw [hm32.1] at fby d1
            have HBY : Hid (By B wr (.slice vp 32 vc) ml) := fby
            clear fby ez em hkz hkm
            obtain ⟨wa, HWA⟩ : ∃ wa, Hid (wr.alloc (.cells #[.int .i64 (zi : Int), .slice vp 32 vc] 44) = wa) := ⟨_, rfl⟩
            have hba : Below wr.heap.size wr wa := by rw [← HWA.out]; exact below_alloc' wr _
            have hza : wa.heap[wr.heap.size]? = some (.cells #[.int .i64 (zi : Int), .slice vp 32 vc] 44 (0, 0)) := by rw [← HWA.out]; exact heap_alloc_new wr _
            have za0 : wa.cell? ⟨wr.heap.size, 0, none⟩ = some (.int .i64 (zi : Int)) := by rw [cell_of_row _ _ _ _ _ _ hza]; rfl
            obtain ⟨ga, hga⟩ : ∃ ga, ga = wr.heap.size := ⟨_, rfl⟩
            have GA : Hid ((((One B wa p q m x c L' ls' ss' ∧ Below B w wa ∧ B ≤ wa.heap.size) ∧ HdR B wa (.slice (some ⟨gz, 0, none⟩) n3 zc) zs' ms')) ∧ By B wa (.slice vp 32 vc) ml ∧ wa.heap[ga]? = some (.cells #[.int .i64 (zi : Int), .slice vp 32 vc] 44 (0, 0))) := ⟨⟨⟨GK.out.1.1.below hba, GK.out.1.2.1.trans (hba.mono GK.out.1.2.2), Nat.le_trans GK.out.1.2.2 hba.size⟩, GK.out.2.below hba⟩, HBY.out.below hba, by rw [hga]; exact hza⟩
            rw [← HWA.out] at za0
            clear hba hza GK HBY
            go_wp2_with fail
            rw [HWA.out]
            rw [← hga]
            clear za0 d0 d1 HWA hga
            refine (one_at GA.out.1.1.1 f1 f2 (by omega)).mono ?_
            rintro e wb ⟨u2, rfl, ho, hbb⟩
            rw [hm32.1] at ho
            obtain ⟨uq2, uc2, rfl⟩ := own_slice ho
            obtain ⟨wc, HWC⟩ : ∃ wc, Hid (wb.alloc (.cells #[.int .i64 (zi : Int), .slice uq2 32 uc2] 44) = wc) := ⟨_, rfl⟩
            have hbc : Below wb.heap.size wb wc := by rw [← HWC.out]; exact below_alloc' wb _
            have hzc : wc.heap[wb.heap.size]? = some (.cells #[.int .i64 (zi : Int), .slice uq2 32 uc2] 44 (0, 0)) := by rw [← HWC.out]; exact heap_alloc_new wb _
            have hbac : Below wa.heap.size wa wc := hbb.trans (hbc.mono hbb.size)
            have hga2 : wc.heap[ga]? = some (.cells #[.int .i64 (zi : Int), .slice vp 32 vc] 44 (0, 0)) := (hbac.block ga (Array.getElem?_eq_some_iff.1 GA.out.2.2).1).trans GA.out.2.2
            have GC : Hid ((((One B wc p q m x c L' ls' ss' ∧ Below B w wc ∧ B ≤ wc.heap.size) ∧ HdR B wc (.slice (some ⟨gz, 0, none⟩) n3 zc) zs' ms')) ∧ By B wc (.slice vp 32 vc) ml) := ⟨⟨⟨GA.out.1.1.1.below hbac, GA.out.1.1.2.1.trans (hbac.mono GA.out.1.1.2.2), Nat.le_trans GA.out.1.1.2.2 hbac.size⟩, GA.out.1.2.below hbac⟩, GA.out.2.1.below hbac⟩
            have hcv1 := conv_src (GC.out.2.src)
            have hcv2 := conv_src ((Src.own hm32.2 ho).below hbc)
            have hqq : ((strB ml).toList == (strB ml).toList) = true := by simp
            have x1 : wc.cell? ⟨wb.heap.size, 1, none⟩ = some (.slice uq2 32 uc2) := by rw [cell_of_row _ _ _ _ _ _ hzc]; rfl
            have y0 : wc.cell? ⟨ga, 0, none⟩ = some (.int .i64 (zi : Int)) := by rw [cell_of_row _ _ _ _ _ _ hga2]; rfl
            have y1 : wc.cell? ⟨ga, 1, none⟩ = some (.slice vp 32 vc) := by rw [cell_of_row _ _ _ _ _ _ hga2]; rfl
            rw [← HWC.out] at hcv1 hcv2 x1 y0 y1
            clear ho hbb hbc hzc hbac hga2 GA
            generalize strB ml = sml' at *
            go_wp2_with fail
            rw [HWC.out]
            refine (one_check GC.out.1.1.1 f1 f2 GC.out.2.src (if_pos rfl)).mono ?_
            rintro e wd ⟨rfl, hbd⟩
            have GD : Hid ((One B wd p q m x c L' ls' ss' ∧ Below B w wd ∧ B ≤ wd.heap.size) ∧ HdR B wd (.slice (some ⟨gz, 0, none⟩) n3 zc) zs' ms') := ⟨⟨GC.out.1.1.1.below hbd, GC.out.1.1.2.1.trans (hbd.mono GC.out.1.1.2.2), Nat.le_trans GC.out.1.1.2.2 hbd.size⟩, GC.out.1.2.below hbd⟩
            clear hbd GC hcv1 hcv2 x1 y0 y1 HWC
            go_wp2_with fail
            refine ⟨⟨k + 1, by omega, by simp, GD⟩, ?_⟩
            simp only [intOf]
            omega
          · obtain rfl : k = n3 := by omega
            have k1' : ¬ (k : Int) < (k : Int) := by omega
            have HC9 := HC8.out
            have hkj : k = j + 1 := HN3.out
            have hkj2 : ((k : Nat) : Int) = (j : Int) + 1 := by omega
            have HKJ : Hid (k = j + 1) := hkj
            clear hkj hkj2
            go_wp2_with fail
            refine ⟨⟨k, L', ls', ss', zs', ms', zq, zc, by have := HKJ.out; omega, by rw [HKJ.out]; simp, rfl, GK.out.1, GK.out.2, HZL, ⟨HC9.1, HC9.2.1, HC9.2.2.1, HC9.2.2.2⟩⟩, ?_⟩
            have hkj := HKJ.out
            simp only [intOf]
            omega
    · obtain rfl : j = n1 := by omega
      have j1 : ¬ (j : Int) < (j : Int) := by omega
      go_wp2_with fail
      go_ret
      exact ⟨rfl, GJ.out.2.1⟩
theorem grows_any (w : World) (a1 : Option Addr) (n1 c1 : Nat) (h1 : n1 ≤ 9223372036854775807 ∧ ∃ ls : List (List Nat), ls.length = n1 ∧ RowsIs w a1 ls) :
    Calls Tryd.prog 7 #[.slice a1 n1 c1] w fun e w' => e = .returned (.bool true) ∧ Below w.heap.size w w' := by
  obtain ⟨x1, al, l1, r1⟩ := h1
  cases s1 : sml al with
  | false => exact gr_o1 w a1 n1 c1 al r1 l1 x1 s1
  | true =>
    by_cases k0 : 30 < n1
    · exact gr_o2 w a1 n1 c1 al r1 l1 x1 s1 k0
    exact gr_main w a1 n1 c1 al r1 l1 s1 (by omega)
end Go.Proofs.YtkiohhkmlpgdoaaDoor.S7
