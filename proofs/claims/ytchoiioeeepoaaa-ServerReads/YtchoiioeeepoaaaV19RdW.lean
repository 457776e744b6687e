/- ServerReads: the walk. -/
import Derived.Test.YtchoiioeeepoaaaV19Rdb
namespace Go.Proofs.Ytchoiioeeepoaaa.V19
open Go.RowKit C8 E9 F17
set_option maxHeartbeats 4000000 in
set_option maxRecDepth 20000 in
theorem reads_any (q : Option Addr) (cp : Nat) (ls : Ls) (w : World) (h : LkRow w q ls) (hl : ls.length ≤ 9223372036854775807) :
    Calls Try.prog 5 #[.slice q ls.length cp] w fun e w' => e = .returned (.bool true) ∧ Below w.heap.size w w' := by
  obtain ⟨n, HN⟩ : ∃ n, Hid (ls.length = n) := ⟨_, rfl⟩
  have HA : Hid (LkRow w q ls) := h
  have hn : n ≤ 9223372036854775807 := by rw [← HN.out]; exact hl
  have HSS : Hid (∀ y ∈ ls, ∀ z ∈ y, z < 256) := fun y hy => by
    obtain ⟨j, hj, rfl⟩ := List.getElem_of_mem hy
    obtain ⟨_, _, _, _, _, _, _, k4, _⟩ := h j hj
    exact k4.small
  rw [HN.out]
  have HC : Calls Try.prog 9 #[] w fun e w' => e = .returned (.bool true) ∧ Hid (Below w.heap.size w w') := anchor_any w
  clear h hl
  go_enter Try.func5, Try.ntmps5
  go_wp2_with fail
  refine HC.mono ?_
  rintro e w1 ⟨rfl, H1⟩
  clear HC
  by_cases h64 : (64 : Int) < (n : Int)
  · go_wp2_with fail
    go_ret
    exact ⟨rfl, H1.out⟩
  have HIN : Hid (In64 0 ∧ In64 1) := by unfold In64; exact ⟨by omega, by omega⟩
  go_wp2_with fail
  refine (Sk.new H1.out).mono ?_
  rintro e w2 ⟨p, b, rfl, H2⟩
  go_wp2_with fail
  go_loopw [23] (fun i wr => ∃ j : Nat, j ≤ n ∧ i = .int .i64 j ∧ Hid (∃ m M, m ≤ j ∧ M 0 1 = lg (ls.take j) ∧ Sk w wr p b m M [])) (fun i _ => n - (intOf i).toNat)
  case atStart => exact ⟨0, by omega, rfl, 0, none0, by omega, rfl, H2.out⟩
  case round =>
    obtain ⟨j, hj, rfl, HQ⟩ := hrel
    obtain ⟨m, M, hm, hM, hsk⟩ := HQ.out
    have HSK : Hid (Sk w wr p b m M []) := hsk
    have HM : Hid (M 0 1 = lg (ls.take j)) := hM
    clear hM hsk HQ
    by_cases hlt : j < n
    · have ja : j < ls.length := by rw [HN.out]; exact hlt
      obtain ⟨b1, o1, bp, bc, rfl, k2, k3, k4, k5⟩ := (HA.out.below HSK.out.sv.bel) j ja
      obtain ⟨y, HY⟩ : ∃ y : List Nat, Hid (ls[j] = y) := ⟨ls[j], rfl⟩
      have HYM : Hid (y ∈ ls) := by rw [← HY.out]; exact List.getElem_mem _
      rw [HY.out] at k3 k4 k5
      have HSRC : Hid (Src wr (.slice bp y.length bc) y) := k4
      obtain ⟨zy, HZY⟩ : ∃ z, Hid (y.length = z) := ⟨_, rfl⟩
      rw [HZY.out] at k3 k5
      have j1 : (j : Int) < (n : Int) := by omega
      have j0 : (0 : Int) ≤ (j : Int) := by omega
      clear k2 k4
      by_cases hz : (4200 : Int) < (zy : Int)
      · go_wp2_with fail
        go_ret
        exact ⟨rfl, ((HSK.out.sv.bel.alloc HSK.out.sv.bel.size _).alloc (by have := HSK.out.sv.bel.size; simp; omega) _)⟩
      obtain ⟨W2, hW2⟩ : ∃ W2, W2 = (wr.alloc (.cells #[.slice bp zy bc] 32)).alloc (.cells #[.int .i64 1, .int .i64 1, .int .i64 0, .slice (some ⟨wr.heap.size, 0, none⟩) 1 1, .slice none 0 0] 37) := ⟨_, rfl⟩
      have hb2 : Below wr.heap.size wr W2 := by rw [hW2]; exact ((Below.refl _ wr).alloc (Nat.le_refl _) _).alloc (by simp) _
      have hr0 : W2.heap[wr.heap.size]? = some (.cells #[.slice bp zy bc] 32 (0, 0)) := by
        rw [hW2, heap_alloc_old _ _ (by simp)]
        exact heap_alloc_new wr _
      have hbx : W2.heap[wr.heap.size + 1]? = some (.cells #[.int .i64 1, .int .i64 1, .int .i64 0, .slice (some ⟨wr.heap.size, 0, none⟩) 1 1, .slice none 0 0] 37 (0, 0)) := by
        rw [hW2]
        have := heap_alloc_new (wr.alloc (.cells #[.slice bp zy bc] 32)) (.cells #[.int .i64 1, .int .i64 1, .int .i64 0, .slice (some ⟨wr.heap.size, 0, none⟩) 1 1, .slice none 0 0] 37)
        simpa using this
      go_upto_region 10 with fail
      rw [← hW2]
      clear hW2
      have HFI : Hid (FrIs W2 (.agg #[.int .i64 1, .int .i64 1, .int .i64 0, .slice (some ⟨wr.heap.size, 0, none⟩) 1 1, .slice none 0 0]) (pf 1 [y])) := by
        refine pf_is (fun i hi => ?_) rfl (by omega)
        match i, hi with
        | 0, _ =>
          refine ⟨_, _, bp, bc, rfl, (Array.getElem?_eq_some_iff.1 hr0).1, ?_, HSRC.out.below hb2, by show y.length ≤ _; rw [HZY.out]; exact k5⟩
          rw [cell_of_row _ _ _ _ _ _ hr0]
          show some (Value.slice bp zy bc) = some (.slice bp y.length bc)
          rw [HZY.out]
      have HS2 : Hid (Sk w W2 p b m M []) := HSK.out.step hb2
      have HBX : Hid (∀ W, Below W2.heap.size W2 W → W.heap[wr.heap.size + 1]? = some (.cells #[.int .i64 1, .int .i64 1, .int .i64 0, .slice (some ⟨wr.heap.size, 0, none⟩) 1 1, .slice none 0 0] 37 (0, 0))) := fun W hW => (hW.block _ (Array.getElem?_eq_some_iff.1 hbx).1).trans hbx
      have HRT : Calls Try.prog 12 #[.agg #[.int .i64 1, .int .i64 1, .int .i64 0, .slice (some ⟨wr.heap.size, 0, none⟩) 1 1, .slice none 0 0]] W2 fun e w' => e = .returned (.bool (okl y)) ∧ Hid (Below W2.heap.size W2 w') := by
        refine (rRight_any _ _ _ HFI.out).mono ?_
        rintro e w' ⟨rfl, h⟩
        exact ⟨by rw [right_one y (HSS.out y HYM.out)], h⟩
      have HLG : Hid (lg (ls.take (j + 1)) = if okl y = true then add (lg (ls.take j)) [y] else lg (ls.take j)) := by
        show _ = _
        rw [lg_take ja, HY.out]
      obtain ⟨bo, HBO⟩ : ∃ bo, Hid (okl y = bo) := ⟨_, rfl⟩
      rw [HBO.out] at HRT
      have d0 : W2.cell? ⟨wr.heap.size + 1, 0, none⟩ = some (.int .i64 1) := cell_of_row _ _ _ _ _ _ hbx
      have d1 : W2.cell? ⟨wr.heap.size + 1, 1, none⟩ = some (.int .i64 1) := cell_of_row _ _ _ _ _ _ hbx
      have d2 : W2.cell? ⟨wr.heap.size + 1, 2, none⟩ = some (.int .i64 0) := cell_of_row _ _ _ _ _ _ hbx
      have d3 : W2.cell? ⟨wr.heap.size + 1, 3, none⟩ = some (.slice (some ⟨wr.heap.size, 0, none⟩) 1 1) := cell_of_row _ _ _ _ _ _ hbx
      have d4 : W2.cell? ⟨wr.heap.size + 1, 4, none⟩ = some (.slice none 0 0) := cell_of_row _ _ _ _ _ _ hbx
      clear hb2 hr0 hbx k3 k5
      go_wp2_with fail
      refine HRT.mono ?_
      rintro e w3 ⟨rfl, H3⟩
      clear HRT d0 d1 d2 d3 d4
      cases bo with
      | false =>
        go_wp2_with fail
        refine ⟨⟨j + 1, by omega, by simp, m, M, by omega, ?_, HS2.out.step H3.out⟩, ?_⟩
        · have := HLG.out
          rw [HBO.out, if_neg (by simp)] at this
          rw [this]
          exact HM.out
        · simp only [intOf]
          omega
      | true =>
        have hbx := HBX.out w3 H3.out
        have d0 : w3.cell? ⟨wr.heap.size + 1, 0, none⟩ = some (.int .i64 1) := cell_of_row _ _ _ _ _ _ hbx
        have d1 : w3.cell? ⟨wr.heap.size + 1, 1, none⟩ = some (.int .i64 1) := cell_of_row _ _ _ _ _ _ hbx
        have d2 : w3.cell? ⟨wr.heap.size + 1, 2, none⟩ = some (.int .i64 0) := cell_of_row _ _ _ _ _ _ hbx
        have d3 : w3.cell? ⟨wr.heap.size + 1, 3, none⟩ = some (.slice (some ⟨wr.heap.size, 0, none⟩) 1 1) := cell_of_row _ _ _ _ _ _ hbx
        have d4 : w3.cell? ⟨wr.heap.size + 1, 4, none⟩ = some (.slice none 0 0) := cell_of_row _ _ _ _ _ _ hbx
        clear hbx
        have HR1 : Hid (F17.right (pf 1 [y]) = true) := by
          show _ = _
          rw [right_one y (HSS.out y HYM.out), HBO.out]
        have HBY : Calls Try.prog 13 #[.agg #[.int .i64 1, .int .i64 1, .int .i64 0, .slice (some ⟨wr.heap.size, 0, none⟩) 1 1, .slice none 0 0]] w3 fun e w' => ∃ v, e = .returned v ∧ Hid (Sk w w' p b m M [] ∧ Src w' v (F17.bytes (pf 1 [y]))) := by
          refine (rBytes_any _ _ w3 (HFI.out.below H3.out) HR1.out).mono ?_
          rintro e w' ⟨v, rfl, h1, h2⟩
          exact ⟨v, rfl, (HS2.out.step H3.out).step h2, Src.own (F17.bytes_small HFI.out.small) h1⟩
        have HY1 : Hid (1 ≤ y.length ∧ y.length ≤ 4096) := by
          show 1 ≤ y.length ∧ y.length ≤ 4096
          have h := HBO.out
          unfold okl at h
          exact of_decide_eq_true h
        have HHD : Hid (hd M 0 (F17.bytes (pf 1 [y])) = (upd M 0 1 (add (M 0 1) [y]), [], 0)) := by
          refine hd_pushed (.inl rfl) (by omega) (by simp) ⟨by simp, fun z hz => by rw [List.mem_singleton.1 hz]; exact ⟨HY1.out, HSS.out y HYM.out⟩⟩ ?_ ?_
          · have h4 := F17.enc_lpts [y] (fun z hz => by rw [List.mem_singleton.1 hz]; exact HY1.out)
            unfold pf
            rw [len_of]
            simp only [List.length_singleton] at h4
            omega
          · have h4 := lg_len (ls.take j)
            rw [HM.out]
            simp only [List.length_take, List.length_singleton] at h4 ⊢
            omega
        have HRS : Hid ((upd M 0 1 (add (M 0 1) [y])) 0 1 = lg (ls.take (j + 1))) := by
          show _ = _
          have := HLG.out
          rw [HBO.out, if_pos rfl] at this
          rw [upd_same, this, HM.out]
        have hm9 : m ≤ 900000 := by omega
        clear HFI HLG HY1 HBX HM
        go_wp2_with fail
        refine HBY.mono ?_
        rintro e w4 ⟨v4, rfl, H4⟩
        clear HBY d0 d1 d2 d3 d4
        go_wp2_with fail
        refine (H4.out.1.handle HHD.out H4.out.2 HIN.out.1 hm9).mono ?_
        rintro e w5 ⟨v5, rfl, H5⟩
        go_wp2_with fail
        refine ⟨⟨j + 1, by omega, by simp, m + 1, _, by omega, HRS.out, H5.out.1⟩, ?_⟩
        simp only [intOf]
        omega
    · obtain rfl : j = n := by omega
      have j1 : ¬ (j : Int) < (j : Int) := by omega
      have hT : ls.take j = ls := List.take_of_length_le (by rw [HN.out]; omega)
      obtain ⟨L, HL⟩ : ∃ L, Hid (lg ls = L) := ⟨_, rfl⟩
      have HML : Hid (M 0 1 = L) := by
        have := HM.out
        rw [hT, HL.out] at this
        exact this
      have HWF : Hid (Wf L) := by
        show Wf L
        rw [← HL.out]
        exact lg_wf (by rw [HN.out]; omega) HSS.out
      obtain ⟨z, HZ⟩ : ∃ z, Hid (L.length = z) := ⟨_, rfl⟩
      have hz64 : z ≤ 64 := by have := HWF.out.1; have := HZ.out; omega
      have hm9 : m ≤ 64 := by omega
      clear HM hT H2 hlt
      go_wp2_with fail
      refine (HSK.out.log HIN.out.1 HIN.out.2 (n := z) (by rw [HML.out]; exact HZ.out)).mono ?_
      rintro e w3 ⟨lq, lc, rfl, H3⟩
      replace H3 := H3.out.1
      rw [HML.out] at H3
      have H3' : Hid (Sk w w3 p b m M [(lq, L)]) := H3
      clear H3 HSK
      go_wp2_with fail
      have HGB : ∀ W (i : Int), Below w3.heap.size w3 W → 0 ≤ i → i ≤ 64 → Calls Try.prog 13 #[.agg #[.int .i64 2, .int .i64 1, .int .i64 i, .slice none 0 0, .slice none 0 0]] W fun e w' => ∃ u, e = .returned u ∧ Hid (Src w' u (F17.bytes (gf 1 i)) ∧ Below W.heap.size W w') := fun W i _ h0 h1 => gBytes_any 1 i W (by omega) ⟨h0, h1⟩
      have HPL : ∀ W W' u (i er : Int) r, Below w3.heap.size w3 W → Hid (Src W' u (F17.bytes (gf 1 i)) ∧ Below W.heap.size W W') → 0 ≤ i → i ≤ 64 → pullA M 0 1 i = (r, er) → Calls Try.prog 14 #[.pointer (some ⟨p, 0, none⟩), .int .i64 0, u] W' fun e w' => ∃ v', e = .returned (.tuple #[v', .int .i64 er]) ∧ Hid (Src w' v' r ∧ Below W.heap.size W w') := by
        intro W W' u i er r hW hs h0 h1 he
        have hb : Below w3.heap.size w3 W' := hW.trans (hs.out.2.mono hW.size)
        refine (ask_any p b m M 0 1 i u W' (H3'.out.step hb).sv.at_ (.inl rfl) H3'.out.sv.ok (by omega) ⟨h0, h1⟩ hs.out.1).mono ?_
        rintro e w' ⟨v', rfl, H⟩
        rw [he] at H ⊢
        exact ⟨v', rfl, H.out.1, hs.out.2.trans (H.out.2.mono hs.out.2.size)⟩
      go_loopw [42, 7] (fun i v wr => ∃ (k g : Nat), k ≤ 64 ∧ g ≤ z ∧ min k z ≤ g ∧ i = .int .i64 k ∧ ∃ q7 c7, v = .slice q7 g c7 ∧ Hid (Below w3.heap.size w3 wr ∧ LRow wr w3.heap.size (.slice q7 g c7) g (L.take g))) (fun i _ _ => 64 - (intOf i).toNat)
      case atStart =>
        refine ⟨0, 0, by omega, by omega, by omega, rfl, none, 0, rfl, Below.refl _ _, ?_⟩
        simp only [List.take_zero]
        exact LRow.nil _ _
      case round =>
        obtain ⟨k, g, hk, hg, hkg, rfl, q7, c7, rfl, HSQ⟩ := hrel
        by_cases hkt : k < 64
        · have k1 : (k : Int) < 64 := by omega
          obtain ⟨c, b1, b2, b3, b4, b5, b6⟩ := bat_is (c := 1) (i := (g : Int)) (ls := L.drop g) (by omega) (by omega) ⟨by rw [List.length_drop]; have := HWF.out.1; omega, fun y hy => HWF.out.2 y (List.mem_of_mem_drop hy)⟩
          rw [List.length_drop, HZ.out] at b2 b3
          have HHD : Hid (pullA M 0 1 (g : Int) = (F17.bytes ⟨3, 1, (g : Int), (L.drop g).take c, []⟩, 0)) := by
            show _ = _
            unfold pullA
            rw [HML.out, HZ.out, if_neg (by omega), Int.toNat_natCast, b4]
          have HB6 : Hid (F17.right ⟨3, 1, (g : Int), (L.drop g).take c, []⟩ = true ∧ (F17.bytes ⟨3, 1, (g : Int), (L.drop g).take c, []⟩).length ≤ 32768 ∧ ((L.drop g).take c).length = c) := ⟨b6, b5, by rw [List.length_take, List.length_drop, HZ.out]; omega⟩
          have HTK : Hid (L.take g ++ (L.drop g).take c = L.take (g + c)) := by
            show _ = _
            rw [List.take_add]
          clear b4 b5 b6
          go_wp2_with fail
          refine (HGB wr (g : Int) HSQ.out.1 (by omega) (by omega)).mono ?_
          rintro e w4 ⟨v4, rfl, H4⟩
          go_wp2_with fail
          refine (HPL wr w4 v4 (g : Int) 0 _ HSQ.out.1 H4 (by omega) (by omega) HHD.out).mono ?_
          rintro e w5 ⟨v5, rfl, H5⟩
          clear H4 HHD
          go_wp2_with fail
          refine (dec_batch (HSQ.out.2.below H5.out.2) H5.out.1 HB6.out.1 HB6.out.2.1 HB6.out.2.2 rfl).mono ?_
          rintro e w6 ⟨xq, xc, sp, sc, rfl, H6⟩
          obtain ⟨W7, hW7⟩ : ∃ W, W = w6.alloc (.cells #[.int .i64 3, .int .i64 1, .int .i64 (g : Int), .slice xq c xc, .slice sp 0 sc] 34) := ⟨_, rfl⟩
          have hb7 : Below w6.heap.size w6 W7 := by rw [hW7]; exact (Below.refl _ _).alloc (Nat.le_refl _) _
          have hbx : W7.heap[w6.heap.size]? = some (.cells #[.int .i64 3, .int .i64 1, .int .i64 (g : Int), .slice xq c xc, .slice sp 0 sc] 34 (0, 0)) := by rw [hW7]; exact heap_alloc_new w6 _
          have d2 : W7.cell? ⟨w6.heap.size, 2, none⟩ = some (.int .i64 (g : Int)) := cell_of_row _ _ _ _ _ _ hbx
          have d3 : W7.cell? ⟨w6.heap.size, 3, none⟩ = some (.slice xq c xc) := cell_of_row _ _ _ _ _ _ hbx
          have H7 : Hid ((Below w3.heap.size w3 W7 ∧ LRow W7 w3.heap.size (.slice q7 g c7) g (L.take g)) ∧ (1 ≤ c → ∃ ad, xq = some ad) ∧ ∃ news : List Value, news.length = c ∧ (∀ ad, xq = some ad → ∀ (j : Nat) (u : Value), news[j]? = some u → W7.cell? (ad.add j) = some u) ∧ AreC W7 (Value.slice q7 g c7).ownBlock news ((L.drop g).take c)) := by
            obtain ⟨h1, h0, news, h2, h3, h4⟩ := H6.out
            have hb9 : Below wr.heap.size wr W7 := H5.out.2.trans ((h1.trans (hb7.mono h1.size)).mono H5.out.2.size)
            refine ⟨⟨HSQ.out.1.trans (hb9.mono HSQ.out.1.size), HSQ.out.2.below hb9⟩, h0, news, h2, fun ad e j u hu => ?_, h4.turn (Only.of_below hb7 _) (.inl rfl)⟩
            exact (hb7.cell (World.block_lt_of_cell? _ _ (h3 ad e j u hu))).trans (h3 ad e j u hu)
          clear H5 H6 hb7 hbx HSQ
          go_upto_region 21 with fail
          rw [← hW7]
          clear hW7
          by_cases hc0 : c = 0
          · subst hc0
            have hgz : g = z := by omega
            subst hgz
            go_wp2_with (first | with_reducible (refine stop_builtin .append ?_))
            refine Stop.go ?_
            refine law_append_zero w3.heap.size (.slice q7 g c7) g (L.take g) xq xc rfl rfl H7.out.1.2 ?_
            go_wp2_with fail
            refine ⟨⟨k + 1, g, by omega, by omega, by omega, by simp, q7, c7, rfl, H7.out.1⟩, ?_⟩
            simp only [intOf]
            omega
          · go_wp2_with (first | with_reducible (refine stop_builtin .append ?_))
            refine Stop.go ?_
            obtain ⟨hsq, hx, news, n1, n2, n3⟩ := H7.out
            obtain ⟨ad, rfl⟩ := hx (by omega)
            refine law_append_links w3.heap.size (.slice q7 g c7) g (L.take g) ad c xc news ((L.drop g).take c) rfl rfl hsq.2 HB6.out.2.2 n1 (fun j u hu => n2 ad rfl j u hu) n3 (by omega) hsq.1.size ?_
            intro v8 w8 r1 r2 _
            rw [HTK.out] at r1
            obtain ⟨q8, c8, rfl⟩ := r1.slice
            have HEN : Hid (Below w3.heap.size w3 w8 ∧ LRow w8 w3.heap.size (.slice q8 (g + c) c8) (g + c) (L.take (g + c))) := ⟨hsq.1.trans (hsq.2.grown r2 hsq.1.size), r1⟩
            clear r1 r2 n1 n2 n3 hsq hx H7
            go_wp2_with fail
            refine ⟨⟨k + 1, g + c, by omega, by omega, by omega, by simp, q8, c8, by simp, HEN.out⟩, ?_⟩
            simp only [intOf]
            omega
        · obtain rfl : k = 64 := by omega
          obtain rfl : g = z := by omega
          have hT : L.take g = L := List.take_of_length_le (by rw [HZ.out]; omega)
          have HLR : Hid (LkRow wr q7 L) := by
            have := HSQ.out.2.lk
            rwa [hT] at this
          have HLQ : Hid (LkRow wr lq L) := (H3'.out.rows (lq, L) (by simp)).below HSQ.out.1
          clear hT
          have HSM : ∀ W, Below wr.heap.size wr W → Calls Try.prog 18 #[.slice q7 g c7, .slice lq g lc] W fun e w' => e = .returned (.bool true) ∧ Hid (Below W.heap.size W w') := fun W hW => by
            have := same_any q7 lq c7 lc L L W (HLR.out.below hW) (HLQ.out.below hW) (by rw [HZ.out]; omega) (by rw [HZ.out]; omega)
            rw [HZ.out] at this
            refine this.mono ?_
            rintro e w' ⟨rfl, hb⟩
            exact ⟨by rw [decide_eq_true rfl], hb⟩
          have HBW : Hid (Below w.heap.size w wr) := H3'.out.sv.bel.trans (HSQ.out.1.mono H3'.out.sv.bel.size)
          by_cases hgz : (g : Int) + 1 ≤ 64
          · have HHD : Hid (pullA M 0 1 ((g : Int) + 1) = ([], 14)) := by
              show _ = _
              unfold pullA
              rw [HML.out, HZ.out, if_pos (by omega)]
            go_wp2_with fail
            all_goals (try (exfalso; omega))
            all_goals (
              refine (HGB wr ((g : Int) + 1) HSQ.out.1 (by omega) (by omega)).mono ?_
              rintro e w4 ⟨v4, rfl, H4⟩
              go_wp2_with fail
              refine (HPL wr w4 v4 ((g : Int) + 1) 14 _ HSQ.out.1 H4 (by omega) (by omega) HHD.out).mono ?_
              rintro e w5 ⟨v5, rfl, H5⟩
              go_wp2_with fail
              refine (HSM _ H5.out.2).mono ?_
              rintro e w6 ⟨rfl, H6⟩
              go_wp2_with fail
              go_ret
              exact ⟨rfl, HBW.out.trans ((H5.out.2.trans (H6.out.mono H5.out.2.size)).mono HBW.out.size)⟩)
          · obtain rfl : g = 64 := by omega
            obtain ⟨r, er, HHD⟩ : ∃ r er, Hid (pullA M 0 1 64 = (r, er)) := ⟨_, _, rfl⟩
            go_wp2_with fail
            all_goals (try (exfalso; omega))
            all_goals (
              refine (HGB wr 64 HSQ.out.1 (by omega) (by omega)).mono ?_
              rintro e w4 ⟨v4, rfl, H4⟩
              go_wp2_with fail
              refine (HPL wr w4 v4 64 er _ HSQ.out.1 H4 (by omega) (by omega) HHD.out).mono ?_
              rintro e w5 ⟨v5, rfl, H5⟩
              go_wp2_with fail
              refine (HSM _ H5.out.2).mono ?_
              rintro e w6 ⟨rfl, H6⟩
              go_wp2_with fail
              all_goals (go_ret; exact ⟨by first | rfl | simp, HBW.out.trans ((H5.out.2.trans (H6.out.mono H5.out.2.size)).mono HBW.out.size)⟩))
end Go.Proofs.Ytchoiioeeepoaaa.V19
