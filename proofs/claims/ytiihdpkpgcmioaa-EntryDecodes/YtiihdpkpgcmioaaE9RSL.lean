/- The document's Same, where two differ in their wraps alone. -/
import Derived.Test.YtiihdpkpgcmioaaE9RSV
namespace Go.Proofs.Ytiihdpkpgcmioaa.E9
open Go.RowKit C8
set_option maxRecDepth 20000 in
set_option maxHeartbeats 8000000 in
theorem rsame_loop (w : World) (a b : En) (np : Option Addr) (nc : Nat) (vp : Option Addr) (vc : Nat) (q : Option Addr) (c : Nat) (np' : Option Addr) (nc' : Nat) (vp' : Option Addr) (vc' : Nat) (q' : Option Addr) (c' : Nat) (ha : EnAt w a np nc vp vc q) (hb : EnAt w b np' nc' vp' vc' q') (h1 : a.kind = b.kind) (h2 : a.writer = b.writer) (h3 : a.seq = b.seq) (h4 : a.name = b.name) (h5 : a.value = b.value) (h6 : a.who = b.who) (h7 : a.rights = b.rights) (h8 : a.epoch = b.epoch) (h9 : a.wraps.length = b.wraps.length) :
    Calls Try.prog 17 #[.agg (EnV a np nc vp vc q c), .agg (EnV b np' nc' vp' vc' q' c')] w fun e w' => e = .returned (.bool (decide (a.wraps = b.wraps))) ∧ Below w.heap.size w w' := by
  have HB : Hid (∀ o1 o2, Below w.heap.size w ((w.alloc o1).alloc o2)) := fun o1 o2 => (bel_alloc (Nat.le_refl _) o1).trans (bel_alloc (by simp) o2)
  have cv1 : ∀ o1 o2, (convert 22 9 (.slice np a.name.length nc)).run Try.prog ((w.alloc o1).alloc o2) = .ok (.string (strB a.name)) ((w.alloc o1).alloc o2) := fun o1 o2 => conv_src (ha.name.below (HB.out o1 o2))
  have cv2 : ∀ o1 o2, (convert 22 9 (.slice np' b.name.length nc')).run Try.prog ((w.alloc o1).alloc o2) = .ok (.string (strB b.name)) ((w.alloc o1).alloc o2) := fun o1 o2 => conv_src (hb.name.below (HB.out o1 o2))
  have cv3 : ∀ o1 o2, (convert 22 9 (.slice vp a.value.length vc)).run Try.prog ((w.alloc o1).alloc o2) = .ok (.string (strB a.value)) ((w.alloc o1).alloc o2) := fun o1 o2 => conv_src (ha.value.below (HB.out o1 o2))
  have cv4 : ∀ o1 o2, (convert 22 9 (.slice vp' b.value.length vc')).run Try.prog ((w.alloc o1).alloc o2) = .ok (.string (strB b.value)) ((w.alloc o1).alloc o2) := fun o1 o2 => conv_src (hb.value.below (HB.out o1 o2))
  have hq4 : ((strB a.name).toList == (strB b.name).toList) = decide (a.name = b.name) := strB_beqL ha.name.small hb.name.small
  have hq5 : ((strB a.value).toList == (strB b.value).toList) = decide (a.value = b.value) := strB_beqL ha.value.small hb.value.small
  have HA : Hid (WrRow w q a.wraps) := ha.wraps
  have HBR : Hid (WrRow w q' b.wraps) := hb.wraps
  have lw := ha.lw
  rw [decide_eq_true h4] at hq4
  rw [decide_eq_true h5] at hq5
  clear ha hb
  obtain ⟨a1, a2, a3, a4, a5, a6, a7, a8, wa⟩ := a
  obtain ⟨b1, b2, b3, b4, b5, b6, b7, b8, wb⟩ := b
  simp only [EnV] at cv1 cv2 cv3 cv4 hq4 hq5 HA HBR lw h1 h2 h3 h4 h5 h6 h7 h8 h9 ⊢
  subst h1 h2 h3 h6 h7 h8
  obtain ⟨res, HR⟩ : ∃ res, Hid (decide (wa = wb) = res) := ⟨_, rfl⟩
  obtain ⟨n, HN⟩ : ∃ n, Hid (wa.length = n) := ⟨_, rfl⟩
  have HM : Hid (wb.length = n) := h9.symm.trans HN.out
  rw [HN.out] at lw
  rw [HR.out, HN.out, HM.out]
  clear h4 h5 h9
  have l1 : (n : Int) ≤ 9223372036854775807 := by omega
  generalize a4.length = la4 at *
  generalize b4.length = lb4 at *
  generalize a5.length = la5 at *
  generalize b5.length = lb5 at *
  generalize strB a4 = sa4 at *
  generalize strB b4 = sb4 at *
  generalize strB a5 = sa5 at *
  generalize strB b5 = sb5 at *
  have HC2W : Hid (∀ w', Below (w.heap.size + 2) ((w.alloc (.cells #[.int .i64 a1, .int .i64 a2, .int .i64 a3, .slice np la4 nc, .slice vp la5 vc, .int .i64 a6, .int .i64 a7, .int .i64 a8, .slice q n c] 30)).alloc (.cells #[.int .i64 a1, .int .i64 a2, .int .i64 a3, .slice np' lb4 nc', .slice vp' lb5 vc', .int .i64 a6, .int .i64 a7, .int .i64 a8, .slice q' n c'] 30)) w' → w'.cell? ⟨w.heap.size, 8, none⟩ = some (.slice q n c)) := fun w' hb => by
    rw [cell_of_row _ _ _ _ _ _ ((hb.block w.heap.size (by omega)).trans (heap_alloc2_old w _ _))]; rfl
  have HC3W : Hid (∀ w', Below (w.heap.size + 2) ((w.alloc (.cells #[.int .i64 a1, .int .i64 a2, .int .i64 a3, .slice np la4 nc, .slice vp la5 vc, .int .i64 a6, .int .i64 a7, .int .i64 a8, .slice q n c] 30)).alloc (.cells #[.int .i64 a1, .int .i64 a2, .int .i64 a3, .slice np' lb4 nc', .slice vp' lb5 vc', .int .i64 a6, .int .i64 a7, .int .i64 a8, .slice q' n c'] 30)) w' → w'.cell? ⟨w.heap.size + 1, 8, none⟩ = some (.slice q' n c')) := fun w' hb => by
    rw [cell_of_row _ _ _ _ _ _ ((hb.block (w.heap.size + 1) (by omega)).trans (heap_alloc2_new w _ _))]; rfl
  have HB2 : Hid (Below w.heap.size w ((w.alloc (.cells #[.int .i64 a1, .int .i64 a2, .int .i64 a3, .slice np la4 nc, .slice vp la5 vc, .int .i64 a6, .int .i64 a7, .int .i64 a8, .slice q n c] 30)).alloc (.cells #[.int .i64 a1, .int .i64 a2, .int .i64 a3, .slice np' lb4 nc', .slice vp' lb5 vc', .int .i64 a6, .int .i64 a7, .int .i64 a8, .slice q' n c'] 30))) := HB.out _ _
  go_enter Try.func17, Try.ntmps17
  go_wp2_with fail
  obtain ⟨W2, HW2⟩ : ∃ W2, Hid (((w.alloc (.cells #[.int .i64 a1, .int .i64 a2, .int .i64 a3, .slice np la4 nc, .slice vp la5 vc, .int .i64 a6, .int .i64 a7, .int .i64 a8, .slice q n c] 30)).alloc (.cells #[.int .i64 a1, .int .i64 a2, .int .i64 a3, .slice np' lb4 nc', .slice vp' lb5 vc', .int .i64 a6, .int .i64 a7, .int .i64 a8, .slice q' n c'] 30)) = W2) := ⟨_, rfl⟩
  rw [HW2.out] at HC2W HC3W HB2
  try rw [HW2.out]
  have HZ2 : Hid (w.heap.size + 2 ≤ W2.heap.size) := by show _ ≤ _; rw [← HW2.out]; simp
  clear HW2 cv1 cv2 cv3 cv4 hq4 hq5 HB
  go_loopw [5] (fun i wr => ∃ j : Nat, j ≤ n ∧ i = .int .i64 j ∧ Hid (Below W2.heap.size W2 wr) ∧ Hid (w.heap.size + 2 ≤ W2.heap.size) ∧ Hid (wa.take j = wb.take j)) (fun i _ => n - (intOf i).toNat)
  case atStart => exact ⟨0, by omega, rfl, Below.refl _ _, HZ2.out, rfl⟩
  case round =>
    obtain ⟨j, hj, rfl, HBL, HZ, HE⟩ := hrel
    have HBW : Hid (Below w.heap.size w wr) := HB2.out.trans (bel_le HBL.out HB2.out.size)
    have k8 := HC2W.out wr (bel_le HBL.out HZ.out)
    by_cases hlt : j < n
    · have ja : j < wa.length := by rw [HN.out]; exact hlt
      have jb : j < wb.length := by rw [HM.out]; exact hlt
      obtain ⟨ba, oa, bp, bc, rfl, k2, k3, k4, k5, k6⟩ := HA.out j ja
      obtain ⟨bb, ob, bp', bc', rfl, m2, m3, m4, m5, m6⟩ := HBR.out j jb
      have j1 : (j : Int) < (n : Int) := by omega
      have j0 : (0 : Int) ≤ (j : Int) := by omega
      have hjn := hlt
      have hB : ∀ w', Only [] wr w' → Below w.heap.size w w' := fun w' ho => HBW.out.trans (ho.below HBW.out.size (by simp))
      have hB2 : ∀ w', Only [] wr w' → Below (w.heap.size + 2) W2 w' := fun w' ho => (bel_le HBL.out HZ.out).trans (ho.below (Nat.le_trans HZ.out HBL.out.size) (by simp))
      have HC2 : Hid (∀ w', Only [] wr w' → w'.cell? ⟨w.heap.size, 8, none⟩ = some (.slice (some ⟨ba, oa, none⟩) n c)) := fun w' ho => HC2W.out w' (hB2 w' ho)
      have HC3 : Hid (∀ w', Only [] wr w' → w'.cell? ⟨w.heap.size + 1, 8, none⟩ = some (.slice (some ⟨bb, ob, none⟩) n c')) := fun w' ho => HC3W.out w' (hB2 w' ho)
      have HA0 : Hid (∀ w', Only [] wr w' → w'.cell? ⟨ba, oa + j * 2 + 0, none⟩ = some (.int .i64 wa[j].1)) := fun w' ho => ((hB w' ho).cell (p := ⟨ba, oa + j * 2, none⟩) k2).trans k3
      have HA1 : Hid (∀ w', Only [] wr w' → w'.cell? ⟨ba, oa + j * 2 + 1, none⟩ = some (.slice bp wa[j].2.length bc)) := fun w' ho => ((hB w' ho).cell (p := ⟨ba, oa + j * 2 + 1, none⟩) k2).trans k4
      have HSA : Hid (∀ w', Only [] wr w' → SrcV [] wa[j].2 (.slice bp wa[j].2.length bc) w') := fun w' ho => ⟨k5.below (hB w' ho), fun _ b _ => by simp⟩
      have HB0 : Hid (∀ w', Only [] wr w' → w'.cell? ⟨bb, ob + j * 2 + 0, none⟩ = some (.int .i64 wb[j].1)) := fun w' ho => ((hB w' ho).cell (p := ⟨bb, ob + j * 2, none⟩) m2).trans m3
      have HB1 : Hid (∀ w', Only [] wr w' → w'.cell? ⟨bb, ob + j * 2 + 1, none⟩ = some (.slice bp' wb[j].2.length bc')) := fun w' ho => ((hB w' ho).cell (p := ⟨bb, ob + j * 2 + 1, none⟩) m2).trans m4
      have HSB : Hid (∀ w', Only [] wr w' → SrcV [] wb[j].2 (.slice bp' wb[j].2.length bc') w') := fun w' ho => ⟨m5.below (hB w' ho), fun _ b _ => by simp⟩
      have HBE : Hid (((strB wa[j].2).toList == (strB wb[j].2).toList) = decide (wa[j].2 = wb[j].2)) := strB_beqL k5.small m5.small
      have HF : Hid (¬ (wa[j].1 = wb[j].1 ∧ wa[j].2 = wb[j].2) → res = false) := fun h => by
        rw [← HR.out]
        apply decide_eq_false
        rintro rfl
        exact h ⟨rfl, rfl⟩
      have HT : Hid (wa[j].1 = wb[j].1 → wa[j].2 = wb[j].2 → wa.take (j + 1) = wb.take (j + 1)) := fun e1 e2 => take_ext ja jb HE.out (Prod.ext e1 e2)
      have HFIN : Hid (∀ w', Only [] wr w' → Below w.heap.size w w') := hB
      have HFB : Hid (∀ w', Only [] wr w' → Below W2.heap.size W2 w') := fun w' ho => HBL.out.trans (ho.below HBL.out.size (by simp))
      clear k3 k4 k5 k6 m3 m4 m5 m6 hB hB2 HE
      generalize wa[j] = x at *
      generalize wb[j] = y at *
      obtain ⟨x1, x2⟩ := x
      obtain ⟨y1, y2⟩ := y
      simp only at HA0 HA1 HSA HB0 HB1 HSB HBE HF HT
      clear ja jb
      obtain ⟨b2, HP2⟩ : ∃ b2, Hid (w.heap.size = b2) := ⟨_, rfl⟩
      obtain ⟨b3, HP3⟩ : ∃ b3, Hid (w.heap.size + 1 = b3) := ⟨_, rfl⟩
      rw [HP2.out] at HC2
      rw [HP3.out] at HC3
      obtain ⟨ca, hca⟩ : ∃ ca, ca = c := ⟨_, rfl⟩
      obtain ⟨cb, hcb⟩ : ∃ cb, cb = c' := ⟨_, rfl⟩
      subst hca hcb
      by_cases hx : x1 = y1
      · have HW : Hid ((x1 == y1) = true) := by show _ = _; simp [hx]
        by_cases hy : x2 = y2
        · have HX : Hid (((strB x2).toList == (strB y2).toList) = true) := by show _ = _; rw [HBE.out]; simp [hy]
          have HT2 : Hid (wa.take (j + 1) = wb.take (j + 1)) := HT.out hx hy
          clear HF HT HBE hx hy
          go_wp2_with fail
          rw [HP3.out, HP2.out]
          have RB : ∀ k w w', Below w.heap.size w w' → (fun (_ : Nat) (_ : World) => True) k w → (fun (_ : Nat) (_ : World) => True) k w' := fun _ _ _ _ _ => trivial
          refine wp_region_st (rsS b2 b3 ba oa ca bb ob cb n j x1 y1 x2 y2) (fun u u' => Only [] u u') (SeqS [] (fun (_ : Nat) (_ : World) => True)) (by kernel_rfl) (only_drew _ _) (only_trans _) (rsS_kept b2 b3 ba oa ca bb ob cb n j x1 y1 x2 y2) (by kernel_rfl) (SeqS.start (trivial)) ?_ ?_
          · intro i o a' w' f hi inv hS hfi hfw hpre
            have ho : Only [] wr w' := inv.grow
            have hlt : i < 30 := (Array.getElem?_eq_some_iff.1 hi).1
            obtain rfl|rfl|rfl|rfl|rfl|rfl|rfl|rfl|rfl|rfl|rfl|rfl|rfl|rfl|rfl|rfl|rfl|rfl|rfl|rfl|rfl|rfl|rfl|rfl|rfl|rfl|rfl|rfl|rfl|rfl : i = 0 ∨ i = 1 ∨ i = 2 ∨ i = 3 ∨ i = 4 ∨ i = 5 ∨ i = 6 ∨ i = 7 ∨ i = 8 ∨ i = 9 ∨ i = 10 ∨ i = 11 ∨ i = 12 ∨ i = 13 ∨ i = 14 ∨ i = 15 ∨ i = 16 ∨ i = 17 ∨ i = 18 ∨ i = 19 ∨ i = 20 ∨ i = 21 ∨ i = 22 ∨ i = 23 ∨ i = 24 ∨ i = 25 ∨ i = 26 ∨ i = 27 ∨ i = 28 ∨ i = 29 := by omega
            · obtain rfl := Option.some.inj hi
              have h0 : a'.tmps.getD 2 undef = (.pointer (some ⟨b2, 0, none⟩)) := by rw [inv.old 2 (notDst_spec (by kernel_rfl))]; rfl
              exact sq_value _ rfl rfl (fa_run 30 8 2 b2 rfl h0 (fa30_8 b2)) (Below.refl _ _) (by decide) hS RB rfl
            · obtain rfl := Option.some.inj hi
              have h0 : a'.tmps.getD 80 undef = _ := pre_of hpre 0 80 (by kernel_rfl) (by kernel_rfl)
              exact sq_value _ rfl rfl (load_run 28 80 b2 (8) _ rfl h0 (ld28 (HC2.out w' ho))) (Below.refl _ _) (by decide) hS RB rfl
            · obtain rfl := Option.some.inj hi
              exact sq_value _ rfl rfl rfl (Below.refl _ _) (by decide) hS RB (by show a'.tmps.getD 5 undef = _; rw [inv.old 5 (notDst_spec (by kernel_rfl))]; rfl)
            · obtain rfl := Option.some.inj hi
              have h0 : a'.tmps.getD 81 undef = _ := pre_of hpre 1 81 (by kernel_rfl) (by kernel_rfl)
              have h1 : a'.tmps.getD 82 undef = _ := pre_of hpre 2 82 (by kernel_rfl) (by kernel_rfl)
              exact sq_value _ rfl rfl (idx28_run 81 82 ba oa n ca j rfl h0 h1 hjn) (Below.refl _ _) (by decide) hS RB rfl
            · obtain rfl := Option.some.inj hi
              have h0 : a'.tmps.getD 83 undef = _ := pre_of hpre 3 83 (by kernel_rfl) (by kernel_rfl)
              exact sq_value _ rfl rfl (fo_run 47 0 83 ba (oa + j * 2) rfl h0 (fo47_0 ba (oa + j * 2))) (Below.refl _ _) (by decide) hS RB rfl
            · obtain rfl := Option.some.inj hi
              have h0 : a'.tmps.getD 84 undef = _ := pre_of hpre 4 84 (by kernel_rfl) (by kernel_rfl)
              exact sq_value _ rfl rfl (load_run 3 84 ba (oa + j * 2 + 0) _ rfl h0 (ld3 (HA0.out w' ho))) (Below.refl _ _) (by decide) hS RB rfl
            · obtain rfl := Option.some.inj hi
              have h0 : a'.tmps.getD 3 undef = (.pointer (some ⟨b3, 0, none⟩)) := by rw [inv.old 3 (notDst_spec (by kernel_rfl))]; rfl
              exact sq_value _ rfl rfl (fa_run 30 8 3 b3 rfl h0 (fa30_8 b3)) (Below.refl _ _) (by decide) hS RB rfl
            · obtain rfl := Option.some.inj hi
              have h0 : a'.tmps.getD 86 undef = _ := pre_of hpre 6 86 (by kernel_rfl) (by kernel_rfl)
              exact sq_value _ rfl rfl (load_run 28 86 b3 (8) _ rfl h0 (ld28 (HC3.out w' ho))) (Below.refl _ _) (by decide) hS RB rfl
            · obtain rfl := Option.some.inj hi
              exact sq_value _ rfl rfl rfl (Below.refl _ _) (by decide) hS RB (by show a'.tmps.getD 5 undef = _; rw [inv.old 5 (notDst_spec (by kernel_rfl))]; rfl)
            · obtain rfl := Option.some.inj hi
              have h0 : a'.tmps.getD 87 undef = _ := pre_of hpre 7 87 (by kernel_rfl) (by kernel_rfl)
              have h1 : a'.tmps.getD 88 undef = _ := pre_of hpre 8 88 (by kernel_rfl) (by kernel_rfl)
              exact sq_value _ rfl rfl (idx28_run 87 88 bb ob n cb j rfl h0 h1 hjn) (Below.refl _ _) (by decide) hS RB rfl
            · obtain rfl := Option.some.inj hi
              have h0 : a'.tmps.getD 89 undef = _ := pre_of hpre 9 89 (by kernel_rfl) (by kernel_rfl)
              exact sq_value _ rfl rfl (fo_run 47 0 89 bb (ob + j * 2) rfl h0 (fo47_0 bb (ob + j * 2))) (Below.refl _ _) (by decide) hS RB rfl
            · obtain rfl := Option.some.inj hi
              have h0 : a'.tmps.getD 90 undef = _ := pre_of hpre 10 90 (by kernel_rfl) (by kernel_rfl)
              exact sq_value _ rfl rfl (load_run 3 90 bb (ob + j * 2 + 0) _ rfl h0 (ld3 (HB0.out w' ho))) (Below.refl _ _) (by decide) hS RB rfl
            · obtain rfl := Option.some.inj hi
              have h0 : a'.tmps.getD 85 undef = _ := pre_of hpre 5 85 (by kernel_rfl) (by kernel_rfl)
              have h1 : a'.tmps.getD 91 undef = _ := pre_of hpre 11 91 (by kernel_rfl) (by kernel_rfl)
              exact sq_value _ rfl rfl (neqN_run 85 91 _ _ rfl h0 h1) (Below.refl _ _) (by decide) hS RB (by show Value.bool _ = _; rw [HW.out]; rfl)
            · obtain rfl := Option.some.inj hi
              have h0 := pre_of hpre 12 92 (by kernel_rfl) (by kernel_rfl)
              exact sq_value _ rfl rfl (rfl) (Below.refl _ _) (by decide) hS RB h0
            · obtain rfl := Option.some.inj hi
              have hgu : a'.tmps.getD 93 undef = _ := pre_of hpre 13 93 (by kernel_rfl) (by kernel_rfl)
              have h0 : a'.tmps.getD 2 undef = (.pointer (some ⟨b2, 0, none⟩)) := by rw [inv.old 2 (notDst_spec (by kernel_rfl))]; rfl
              exact sq_value _ rfl (wanted_of 13 93 false rfl (by kernel_rfl) hgu) (fa_run 30 8 2 b2 rfl h0 (fa30_8 b2)) (Below.refl _ _) (by decide) hS RB rfl
            · obtain rfl := Option.some.inj hi
              have hgu : a'.tmps.getD 93 undef = _ := pre_of hpre 13 93 (by kernel_rfl) (by kernel_rfl)
              have h0 : a'.tmps.getD 94 undef = _ := pre_of hpre 14 94 (by kernel_rfl) (by kernel_rfl)
              exact sq_value _ rfl (wanted_of 13 93 false rfl (by kernel_rfl) hgu) (load_run 28 94 b2 (8) _ rfl h0 (ld28 (HC2.out w' ho))) (Below.refl _ _) (by decide) hS RB rfl
            · obtain rfl := Option.some.inj hi
              have hgu : a'.tmps.getD 93 undef = _ := pre_of hpre 13 93 (by kernel_rfl) (by kernel_rfl)
              exact sq_value _ rfl (wanted_of 13 93 false rfl (by kernel_rfl) hgu) rfl (Below.refl _ _) (by decide) hS RB (by show a'.tmps.getD 5 undef = _; rw [inv.old 5 (notDst_spec (by kernel_rfl))]; rfl)
            · obtain rfl := Option.some.inj hi
              have hgu : a'.tmps.getD 93 undef = _ := pre_of hpre 13 93 (by kernel_rfl) (by kernel_rfl)
              have h0 : a'.tmps.getD 95 undef = _ := pre_of hpre 15 95 (by kernel_rfl) (by kernel_rfl)
              have h1 : a'.tmps.getD 96 undef = _ := pre_of hpre 16 96 (by kernel_rfl) (by kernel_rfl)
              exact sq_value _ rfl (wanted_of 13 93 false rfl (by kernel_rfl) hgu) (idx28_run 95 96 ba oa n ca j rfl h0 h1 hjn) (Below.refl _ _) (by decide) hS RB rfl
            · obtain rfl := Option.some.inj hi
              have hgu : a'.tmps.getD 93 undef = _ := pre_of hpre 13 93 (by kernel_rfl) (by kernel_rfl)
              have h0 : a'.tmps.getD 97 undef = _ := pre_of hpre 17 97 (by kernel_rfl) (by kernel_rfl)
              exact sq_value _ rfl (wanted_of 13 93 false rfl (by kernel_rfl) hgu) (fo_run 47 1 97 ba (oa + j * 2) rfl h0 (fo47_1 ba (oa + j * 2))) (Below.refl _ _) (by decide) hS RB rfl
            · obtain rfl := Option.some.inj hi
              have hgu : a'.tmps.getD 93 undef = _ := pre_of hpre 13 93 (by kernel_rfl) (by kernel_rfl)
              have h0 : a'.tmps.getD 98 undef = _ := pre_of hpre 18 98 (by kernel_rfl) (by kernel_rfl)
              exact sq_value _ rfl (wanted_of 13 93 false rfl (by kernel_rfl) hgu) (load_run 22 98 ba (oa + j * 2 + 1) _ rfl h0 (ld22 (HA1.out w' ho))) (Below.refl _ _) (by decide) hS RB (HSA.out w' ho)
            · obtain rfl := Option.some.inj hi
              have hgu : a'.tmps.getD 93 undef = _ := pre_of hpre 13 93 (by kernel_rfl) (by kernel_rfl)
              have h0 := pre_of hpre 19 99 (by kernel_rfl) (by kernel_rfl)
              exact sq_value _ rfl (wanted_of 13 93 false rfl (by kernel_rfl) hgu) (conv_run 99 rfl (h0.1)) (Below.refl _ _) (by decide) hS RB rfl
            · obtain rfl := Option.some.inj hi
              have hgu : a'.tmps.getD 93 undef = _ := pre_of hpre 13 93 (by kernel_rfl) (by kernel_rfl)
              have h0 : a'.tmps.getD 3 undef = (.pointer (some ⟨b3, 0, none⟩)) := by rw [inv.old 3 (notDst_spec (by kernel_rfl))]; rfl
              exact sq_value _ rfl (wanted_of 13 93 false rfl (by kernel_rfl) hgu) (fa_run 30 8 3 b3 rfl h0 (fa30_8 b3)) (Below.refl _ _) (by decide) hS RB rfl
            · obtain rfl := Option.some.inj hi
              have hgu : a'.tmps.getD 93 undef = _ := pre_of hpre 13 93 (by kernel_rfl) (by kernel_rfl)
              have h0 : a'.tmps.getD 101 undef = _ := pre_of hpre 21 101 (by kernel_rfl) (by kernel_rfl)
              exact sq_value _ rfl (wanted_of 13 93 false rfl (by kernel_rfl) hgu) (load_run 28 101 b3 (8) _ rfl h0 (ld28 (HC3.out w' ho))) (Below.refl _ _) (by decide) hS RB rfl
            · obtain rfl := Option.some.inj hi
              have hgu : a'.tmps.getD 93 undef = _ := pre_of hpre 13 93 (by kernel_rfl) (by kernel_rfl)
              exact sq_value _ rfl (wanted_of 13 93 false rfl (by kernel_rfl) hgu) rfl (Below.refl _ _) (by decide) hS RB (by show a'.tmps.getD 5 undef = _; rw [inv.old 5 (notDst_spec (by kernel_rfl))]; rfl)
            · obtain rfl := Option.some.inj hi
              have hgu : a'.tmps.getD 93 undef = _ := pre_of hpre 13 93 (by kernel_rfl) (by kernel_rfl)
              have h0 : a'.tmps.getD 102 undef = _ := pre_of hpre 22 102 (by kernel_rfl) (by kernel_rfl)
              have h1 : a'.tmps.getD 103 undef = _ := pre_of hpre 23 103 (by kernel_rfl) (by kernel_rfl)
              exact sq_value _ rfl (wanted_of 13 93 false rfl (by kernel_rfl) hgu) (idx28_run 102 103 bb ob n cb j rfl h0 h1 hjn) (Below.refl _ _) (by decide) hS RB rfl
            · obtain rfl := Option.some.inj hi
              have hgu : a'.tmps.getD 93 undef = _ := pre_of hpre 13 93 (by kernel_rfl) (by kernel_rfl)
              have h0 : a'.tmps.getD 104 undef = _ := pre_of hpre 24 104 (by kernel_rfl) (by kernel_rfl)
              exact sq_value _ rfl (wanted_of 13 93 false rfl (by kernel_rfl) hgu) (fo_run 47 1 104 bb (ob + j * 2) rfl h0 (fo47_1 bb (ob + j * 2))) (Below.refl _ _) (by decide) hS RB rfl
            · obtain rfl := Option.some.inj hi
              have hgu : a'.tmps.getD 93 undef = _ := pre_of hpre 13 93 (by kernel_rfl) (by kernel_rfl)
              have h0 : a'.tmps.getD 105 undef = _ := pre_of hpre 25 105 (by kernel_rfl) (by kernel_rfl)
              exact sq_value _ rfl (wanted_of 13 93 false rfl (by kernel_rfl) hgu) (load_run 22 105 bb (ob + j * 2 + 1) _ rfl h0 (ld22 (HB1.out w' ho))) (Below.refl _ _) (by decide) hS RB (HSB.out w' ho)
            · obtain rfl := Option.some.inj hi
              have hgu : a'.tmps.getD 93 undef = _ := pre_of hpre 13 93 (by kernel_rfl) (by kernel_rfl)
              have h0 := pre_of hpre 26 106 (by kernel_rfl) (by kernel_rfl)
              exact sq_value _ rfl (wanted_of 13 93 false rfl (by kernel_rfl) hgu) (conv_run 106 rfl (h0.1)) (Below.refl _ _) (by decide) hS RB rfl
            · obtain rfl := Option.some.inj hi
              have hgu : a'.tmps.getD 93 undef = _ := pre_of hpre 13 93 (by kernel_rfl) (by kernel_rfl)
              have h0 : a'.tmps.getD 100 undef = _ := pre_of hpre 20 100 (by kernel_rfl) (by kernel_rfl)
              have h1 : a'.tmps.getD 107 undef = _ := pre_of hpre 27 107 (by kernel_rfl) (by kernel_rfl)
              exact sq_value _ rfl (wanted_of 13 93 false rfl (by kernel_rfl) hgu) (neqS_run 100 107 _ _ rfl h0 h1) (Below.refl _ _) (by decide) hS RB (by show Value.bool _ = _; rw [HX.out]; rfl)
            · obtain rfl := Option.some.inj hi
              have h0 : a'.tmps.getD 93 undef = _ := pre_of hpre 13 93 (by kernel_rfl) (by kernel_rfl)
              have h1 : a'.tmps.getD 108 undef = _ := pre_of hpre 28 108 (by kernel_rfl) (by kernel_rfl)
              exact sq_value _ rfl rfl (pick_run 93 false _ _ _ _ rfl h0 rfl h1) (Below.refl _ _) (by decide) hS RB rfl
          · intro a' w3 f inv hS hall hd
            have hk29 := hd 29 109 (by kernel_rfl)
            have ho : Only [] wr w3 := inv.grow
            have hdf : a'.defers = [] := inv.defers
            have hsz : a'.tmps.size = 110 := inv.size
            have e := frame17 hsz (fun t ht => inv.old t (dstsIn_spec (ts := [80, 81, 82, 83, 84, 85, 86, 87, 88, 89, 90, 91, 92, 93, 94, 95, 96, 97, 98, 99, 100, 101, 102, 103, 104, 105, 106, 107, 108, 109]) (by kernel_rfl) t ht))
            have hR := hS.done (fun c hc => hall c (show c < 30 by simp at hc <;> omega))
            clear inv hd hsz hall hS
            obtain ⟨tmps, defers⟩ := a'
            obtain rfl : defers = [] := hdf
            replace e : tmps = _ := e
            replace hk29 : tmps.getD 109 undef = (.bool false) := hk29
            generalize tmps.getD 80 undef = x80 at *
            generalize tmps.getD 81 undef = x81 at *
            generalize tmps.getD 82 undef = x82 at *
            generalize tmps.getD 83 undef = x83 at *
            generalize tmps.getD 84 undef = x84 at *
            generalize tmps.getD 85 undef = x85 at *
            generalize tmps.getD 86 undef = x86 at *
            generalize tmps.getD 87 undef = x87 at *
            generalize tmps.getD 88 undef = x88 at *
            generalize tmps.getD 89 undef = x89 at *
            generalize tmps.getD 90 undef = x90 at *
            generalize tmps.getD 91 undef = x91 at *
            generalize tmps.getD 92 undef = x92 at *
            generalize tmps.getD 93 undef = x93 at *
            generalize tmps.getD 94 undef = x94 at *
            generalize tmps.getD 95 undef = x95 at *
            generalize tmps.getD 96 undef = x96 at *
            generalize tmps.getD 97 undef = x97 at *
            generalize tmps.getD 98 undef = x98 at *
            generalize tmps.getD 99 undef = x99 at *
            generalize tmps.getD 100 undef = x100 at *
            generalize tmps.getD 101 undef = x101 at *
            generalize tmps.getD 102 undef = x102 at *
            generalize tmps.getD 103 undef = x103 at *
            generalize tmps.getD 104 undef = x104 at *
            generalize tmps.getD 105 undef = x105 at *
            generalize tmps.getD 106 undef = x106 at *
            generalize tmps.getD 107 undef = x107 at *
            generalize tmps.getD 108 undef = x108 at *
            generalize tmps.getD 109 undef = x109 at *
            simp only [Array.getD_eq_getD_getElem?, List.getElem?_toArray, List.getElem?_cons_succ, List.getElem?_cons_zero, Option.getD_some] at e
            subst e
            subst hk29
            have HB3 : Hid (Below W2.heap.size W2 w3) := HFB.out _ ho
            clear ho hR
            have e2 : w.heap.size = b2 := HP2.out
            have e3 : w.heap.size + 1 = b3 := HP3.out
            subst e2 e3
            go_wp2_with fail
            refine ⟨⟨j + 1, by omega, by simp, HB3, HZ, HT2⟩, ?_⟩
            simp only [intOf]
            omega
        · have HX : Hid (((strB x2).toList == (strB y2).toList) = false) := by show _ = _; rw [HBE.out]; simp [hy]
          have HF2 : Hid (res = false) := HF.out (fun h => hy h.2)
          clear HF HT HBE hx hy
          go_wp2_with fail
          rw [HP3.out, HP2.out]
          have RB : ∀ k w w', Below w.heap.size w w' → (fun (_ : Nat) (_ : World) => True) k w → (fun (_ : Nat) (_ : World) => True) k w' := fun _ _ _ _ _ => trivial
          refine wp_region_st (rsX b2 b3 ba oa ca bb ob cb n j x1 y1 x2 y2) (fun u u' => Only [] u u') (SeqS [] (fun (_ : Nat) (_ : World) => True)) (by kernel_rfl) (only_drew _ _) (only_trans _) (rsX_kept b2 b3 ba oa ca bb ob cb n j x1 y1 x2 y2) (by kernel_rfl) (SeqS.start (trivial)) ?_ ?_
          · intro i o a' w' f hi inv hS hfi hfw hpre
            have ho : Only [] wr w' := inv.grow
            have hlt : i < 30 := (Array.getElem?_eq_some_iff.1 hi).1
            obtain rfl|rfl|rfl|rfl|rfl|rfl|rfl|rfl|rfl|rfl|rfl|rfl|rfl|rfl|rfl|rfl|rfl|rfl|rfl|rfl|rfl|rfl|rfl|rfl|rfl|rfl|rfl|rfl|rfl|rfl : i = 0 ∨ i = 1 ∨ i = 2 ∨ i = 3 ∨ i = 4 ∨ i = 5 ∨ i = 6 ∨ i = 7 ∨ i = 8 ∨ i = 9 ∨ i = 10 ∨ i = 11 ∨ i = 12 ∨ i = 13 ∨ i = 14 ∨ i = 15 ∨ i = 16 ∨ i = 17 ∨ i = 18 ∨ i = 19 ∨ i = 20 ∨ i = 21 ∨ i = 22 ∨ i = 23 ∨ i = 24 ∨ i = 25 ∨ i = 26 ∨ i = 27 ∨ i = 28 ∨ i = 29 := by omega
            · obtain rfl := Option.some.inj hi
              have h0 : a'.tmps.getD 2 undef = (.pointer (some ⟨b2, 0, none⟩)) := by rw [inv.old 2 (notDst_spec (by kernel_rfl))]; rfl
              exact sq_value _ rfl rfl (fa_run 30 8 2 b2 rfl h0 (fa30_8 b2)) (Below.refl _ _) (by decide) hS RB rfl
            · obtain rfl := Option.some.inj hi
              have h0 : a'.tmps.getD 80 undef = _ := pre_of hpre 0 80 (by kernel_rfl) (by kernel_rfl)
              exact sq_value _ rfl rfl (load_run 28 80 b2 (8) _ rfl h0 (ld28 (HC2.out w' ho))) (Below.refl _ _) (by decide) hS RB rfl
            · obtain rfl := Option.some.inj hi
              exact sq_value _ rfl rfl rfl (Below.refl _ _) (by decide) hS RB (by show a'.tmps.getD 5 undef = _; rw [inv.old 5 (notDst_spec (by kernel_rfl))]; rfl)
            · obtain rfl := Option.some.inj hi
              have h0 : a'.tmps.getD 81 undef = _ := pre_of hpre 1 81 (by kernel_rfl) (by kernel_rfl)
              have h1 : a'.tmps.getD 82 undef = _ := pre_of hpre 2 82 (by kernel_rfl) (by kernel_rfl)
              exact sq_value _ rfl rfl (idx28_run 81 82 ba oa n ca j rfl h0 h1 hjn) (Below.refl _ _) (by decide) hS RB rfl
            · obtain rfl := Option.some.inj hi
              have h0 : a'.tmps.getD 83 undef = _ := pre_of hpre 3 83 (by kernel_rfl) (by kernel_rfl)
              exact sq_value _ rfl rfl (fo_run 47 0 83 ba (oa + j * 2) rfl h0 (fo47_0 ba (oa + j * 2))) (Below.refl _ _) (by decide) hS RB rfl
            · obtain rfl := Option.some.inj hi
              have h0 : a'.tmps.getD 84 undef = _ := pre_of hpre 4 84 (by kernel_rfl) (by kernel_rfl)
              exact sq_value _ rfl rfl (load_run 3 84 ba (oa + j * 2 + 0) _ rfl h0 (ld3 (HA0.out w' ho))) (Below.refl _ _) (by decide) hS RB rfl
            · obtain rfl := Option.some.inj hi
              have h0 : a'.tmps.getD 3 undef = (.pointer (some ⟨b3, 0, none⟩)) := by rw [inv.old 3 (notDst_spec (by kernel_rfl))]; rfl
              exact sq_value _ rfl rfl (fa_run 30 8 3 b3 rfl h0 (fa30_8 b3)) (Below.refl _ _) (by decide) hS RB rfl
            · obtain rfl := Option.some.inj hi
              have h0 : a'.tmps.getD 86 undef = _ := pre_of hpre 6 86 (by kernel_rfl) (by kernel_rfl)
              exact sq_value _ rfl rfl (load_run 28 86 b3 (8) _ rfl h0 (ld28 (HC3.out w' ho))) (Below.refl _ _) (by decide) hS RB rfl
            · obtain rfl := Option.some.inj hi
              exact sq_value _ rfl rfl rfl (Below.refl _ _) (by decide) hS RB (by show a'.tmps.getD 5 undef = _; rw [inv.old 5 (notDst_spec (by kernel_rfl))]; rfl)
            · obtain rfl := Option.some.inj hi
              have h0 : a'.tmps.getD 87 undef = _ := pre_of hpre 7 87 (by kernel_rfl) (by kernel_rfl)
              have h1 : a'.tmps.getD 88 undef = _ := pre_of hpre 8 88 (by kernel_rfl) (by kernel_rfl)
              exact sq_value _ rfl rfl (idx28_run 87 88 bb ob n cb j rfl h0 h1 hjn) (Below.refl _ _) (by decide) hS RB rfl
            · obtain rfl := Option.some.inj hi
              have h0 : a'.tmps.getD 89 undef = _ := pre_of hpre 9 89 (by kernel_rfl) (by kernel_rfl)
              exact sq_value _ rfl rfl (fo_run 47 0 89 bb (ob + j * 2) rfl h0 (fo47_0 bb (ob + j * 2))) (Below.refl _ _) (by decide) hS RB rfl
            · obtain rfl := Option.some.inj hi
              have h0 : a'.tmps.getD 90 undef = _ := pre_of hpre 10 90 (by kernel_rfl) (by kernel_rfl)
              exact sq_value _ rfl rfl (load_run 3 90 bb (ob + j * 2 + 0) _ rfl h0 (ld3 (HB0.out w' ho))) (Below.refl _ _) (by decide) hS RB rfl
            · obtain rfl := Option.some.inj hi
              have h0 : a'.tmps.getD 85 undef = _ := pre_of hpre 5 85 (by kernel_rfl) (by kernel_rfl)
              have h1 : a'.tmps.getD 91 undef = _ := pre_of hpre 11 91 (by kernel_rfl) (by kernel_rfl)
              exact sq_value _ rfl rfl (neqN_run 85 91 _ _ rfl h0 h1) (Below.refl _ _) (by decide) hS RB (by show Value.bool _ = _; rw [HW.out]; rfl)
            · obtain rfl := Option.some.inj hi
              have h0 := pre_of hpre 12 92 (by kernel_rfl) (by kernel_rfl)
              exact sq_value _ rfl rfl (rfl) (Below.refl _ _) (by decide) hS RB h0
            · obtain rfl := Option.some.inj hi
              have hgu : a'.tmps.getD 93 undef = _ := pre_of hpre 13 93 (by kernel_rfl) (by kernel_rfl)
              have h0 : a'.tmps.getD 2 undef = (.pointer (some ⟨b2, 0, none⟩)) := by rw [inv.old 2 (notDst_spec (by kernel_rfl))]; rfl
              exact sq_value _ rfl (wanted_of 13 93 false rfl (by kernel_rfl) hgu) (fa_run 30 8 2 b2 rfl h0 (fa30_8 b2)) (Below.refl _ _) (by decide) hS RB rfl
            · obtain rfl := Option.some.inj hi
              have hgu : a'.tmps.getD 93 undef = _ := pre_of hpre 13 93 (by kernel_rfl) (by kernel_rfl)
              have h0 : a'.tmps.getD 94 undef = _ := pre_of hpre 14 94 (by kernel_rfl) (by kernel_rfl)
              exact sq_value _ rfl (wanted_of 13 93 false rfl (by kernel_rfl) hgu) (load_run 28 94 b2 (8) _ rfl h0 (ld28 (HC2.out w' ho))) (Below.refl _ _) (by decide) hS RB rfl
            · obtain rfl := Option.some.inj hi
              have hgu : a'.tmps.getD 93 undef = _ := pre_of hpre 13 93 (by kernel_rfl) (by kernel_rfl)
              exact sq_value _ rfl (wanted_of 13 93 false rfl (by kernel_rfl) hgu) rfl (Below.refl _ _) (by decide) hS RB (by show a'.tmps.getD 5 undef = _; rw [inv.old 5 (notDst_spec (by kernel_rfl))]; rfl)
            · obtain rfl := Option.some.inj hi
              have hgu : a'.tmps.getD 93 undef = _ := pre_of hpre 13 93 (by kernel_rfl) (by kernel_rfl)
              have h0 : a'.tmps.getD 95 undef = _ := pre_of hpre 15 95 (by kernel_rfl) (by kernel_rfl)
              have h1 : a'.tmps.getD 96 undef = _ := pre_of hpre 16 96 (by kernel_rfl) (by kernel_rfl)
              exact sq_value _ rfl (wanted_of 13 93 false rfl (by kernel_rfl) hgu) (idx28_run 95 96 ba oa n ca j rfl h0 h1 hjn) (Below.refl _ _) (by decide) hS RB rfl
            · obtain rfl := Option.some.inj hi
              have hgu : a'.tmps.getD 93 undef = _ := pre_of hpre 13 93 (by kernel_rfl) (by kernel_rfl)
              have h0 : a'.tmps.getD 97 undef = _ := pre_of hpre 17 97 (by kernel_rfl) (by kernel_rfl)
              exact sq_value _ rfl (wanted_of 13 93 false rfl (by kernel_rfl) hgu) (fo_run 47 1 97 ba (oa + j * 2) rfl h0 (fo47_1 ba (oa + j * 2))) (Below.refl _ _) (by decide) hS RB rfl
            · obtain rfl := Option.some.inj hi
              have hgu : a'.tmps.getD 93 undef = _ := pre_of hpre 13 93 (by kernel_rfl) (by kernel_rfl)
              have h0 : a'.tmps.getD 98 undef = _ := pre_of hpre 18 98 (by kernel_rfl) (by kernel_rfl)
              exact sq_value _ rfl (wanted_of 13 93 false rfl (by kernel_rfl) hgu) (load_run 22 98 ba (oa + j * 2 + 1) _ rfl h0 (ld22 (HA1.out w' ho))) (Below.refl _ _) (by decide) hS RB (HSA.out w' ho)
            · obtain rfl := Option.some.inj hi
              have hgu : a'.tmps.getD 93 undef = _ := pre_of hpre 13 93 (by kernel_rfl) (by kernel_rfl)
              have h0 := pre_of hpre 19 99 (by kernel_rfl) (by kernel_rfl)
              exact sq_value _ rfl (wanted_of 13 93 false rfl (by kernel_rfl) hgu) (conv_run 99 rfl (h0.1)) (Below.refl _ _) (by decide) hS RB rfl
            · obtain rfl := Option.some.inj hi
              have hgu : a'.tmps.getD 93 undef = _ := pre_of hpre 13 93 (by kernel_rfl) (by kernel_rfl)
              have h0 : a'.tmps.getD 3 undef = (.pointer (some ⟨b3, 0, none⟩)) := by rw [inv.old 3 (notDst_spec (by kernel_rfl))]; rfl
              exact sq_value _ rfl (wanted_of 13 93 false rfl (by kernel_rfl) hgu) (fa_run 30 8 3 b3 rfl h0 (fa30_8 b3)) (Below.refl _ _) (by decide) hS RB rfl
            · obtain rfl := Option.some.inj hi
              have hgu : a'.tmps.getD 93 undef = _ := pre_of hpre 13 93 (by kernel_rfl) (by kernel_rfl)
              have h0 : a'.tmps.getD 101 undef = _ := pre_of hpre 21 101 (by kernel_rfl) (by kernel_rfl)
              exact sq_value _ rfl (wanted_of 13 93 false rfl (by kernel_rfl) hgu) (load_run 28 101 b3 (8) _ rfl h0 (ld28 (HC3.out w' ho))) (Below.refl _ _) (by decide) hS RB rfl
            · obtain rfl := Option.some.inj hi
              have hgu : a'.tmps.getD 93 undef = _ := pre_of hpre 13 93 (by kernel_rfl) (by kernel_rfl)
              exact sq_value _ rfl (wanted_of 13 93 false rfl (by kernel_rfl) hgu) rfl (Below.refl _ _) (by decide) hS RB (by show a'.tmps.getD 5 undef = _; rw [inv.old 5 (notDst_spec (by kernel_rfl))]; rfl)
            · obtain rfl := Option.some.inj hi
              have hgu : a'.tmps.getD 93 undef = _ := pre_of hpre 13 93 (by kernel_rfl) (by kernel_rfl)
              have h0 : a'.tmps.getD 102 undef = _ := pre_of hpre 22 102 (by kernel_rfl) (by kernel_rfl)
              have h1 : a'.tmps.getD 103 undef = _ := pre_of hpre 23 103 (by kernel_rfl) (by kernel_rfl)
              exact sq_value _ rfl (wanted_of 13 93 false rfl (by kernel_rfl) hgu) (idx28_run 102 103 bb ob n cb j rfl h0 h1 hjn) (Below.refl _ _) (by decide) hS RB rfl
            · obtain rfl := Option.some.inj hi
              have hgu : a'.tmps.getD 93 undef = _ := pre_of hpre 13 93 (by kernel_rfl) (by kernel_rfl)
              have h0 : a'.tmps.getD 104 undef = _ := pre_of hpre 24 104 (by kernel_rfl) (by kernel_rfl)
              exact sq_value _ rfl (wanted_of 13 93 false rfl (by kernel_rfl) hgu) (fo_run 47 1 104 bb (ob + j * 2) rfl h0 (fo47_1 bb (ob + j * 2))) (Below.refl _ _) (by decide) hS RB rfl
            · obtain rfl := Option.some.inj hi
              have hgu : a'.tmps.getD 93 undef = _ := pre_of hpre 13 93 (by kernel_rfl) (by kernel_rfl)
              have h0 : a'.tmps.getD 105 undef = _ := pre_of hpre 25 105 (by kernel_rfl) (by kernel_rfl)
              exact sq_value _ rfl (wanted_of 13 93 false rfl (by kernel_rfl) hgu) (load_run 22 105 bb (ob + j * 2 + 1) _ rfl h0 (ld22 (HB1.out w' ho))) (Below.refl _ _) (by decide) hS RB (HSB.out w' ho)
            · obtain rfl := Option.some.inj hi
              have hgu : a'.tmps.getD 93 undef = _ := pre_of hpre 13 93 (by kernel_rfl) (by kernel_rfl)
              have h0 := pre_of hpre 26 106 (by kernel_rfl) (by kernel_rfl)
              exact sq_value _ rfl (wanted_of 13 93 false rfl (by kernel_rfl) hgu) (conv_run 106 rfl (h0.1)) (Below.refl _ _) (by decide) hS RB rfl
            · obtain rfl := Option.some.inj hi
              have hgu : a'.tmps.getD 93 undef = _ := pre_of hpre 13 93 (by kernel_rfl) (by kernel_rfl)
              have h0 : a'.tmps.getD 100 undef = _ := pre_of hpre 20 100 (by kernel_rfl) (by kernel_rfl)
              have h1 : a'.tmps.getD 107 undef = _ := pre_of hpre 27 107 (by kernel_rfl) (by kernel_rfl)
              exact sq_value _ rfl (wanted_of 13 93 false rfl (by kernel_rfl) hgu) (neqS_run 100 107 _ _ rfl h0 h1) (Below.refl _ _) (by decide) hS RB (by show Value.bool _ = _; rw [HX.out]; rfl)
            · obtain rfl := Option.some.inj hi
              have h0 : a'.tmps.getD 93 undef = _ := pre_of hpre 13 93 (by kernel_rfl) (by kernel_rfl)
              have h1 : a'.tmps.getD 108 undef = _ := pre_of hpre 28 108 (by kernel_rfl) (by kernel_rfl)
              exact sq_value _ rfl rfl (pick_run 93 false _ _ _ _ rfl h0 rfl h1) (Below.refl _ _) (by decide) hS RB rfl
          · intro a' w3 f inv hS hall hd
            have hk29 := hd 29 109 (by kernel_rfl)
            have ho : Only [] wr w3 := inv.grow
            have hdf : a'.defers = [] := inv.defers
            have hsz : a'.tmps.size = 110 := inv.size
            have e := frame17 hsz (fun t ht => inv.old t (dstsIn_spec (ts := [80, 81, 82, 83, 84, 85, 86, 87, 88, 89, 90, 91, 92, 93, 94, 95, 96, 97, 98, 99, 100, 101, 102, 103, 104, 105, 106, 107, 108, 109]) (by kernel_rfl) t ht))
            have hR := hS.done (fun c hc => hall c (show c < 30 by simp at hc <;> omega))
            clear inv hd hsz hall hS
            obtain ⟨tmps, defers⟩ := a'
            obtain rfl : defers = [] := hdf
            replace e : tmps = _ := e
            replace hk29 : tmps.getD 109 undef = (.bool true) := hk29
            generalize tmps.getD 80 undef = x80 at *
            generalize tmps.getD 81 undef = x81 at *
            generalize tmps.getD 82 undef = x82 at *
            generalize tmps.getD 83 undef = x83 at *
            generalize tmps.getD 84 undef = x84 at *
            generalize tmps.getD 85 undef = x85 at *
            generalize tmps.getD 86 undef = x86 at *
            generalize tmps.getD 87 undef = x87 at *
            generalize tmps.getD 88 undef = x88 at *
            generalize tmps.getD 89 undef = x89 at *
            generalize tmps.getD 90 undef = x90 at *
            generalize tmps.getD 91 undef = x91 at *
            generalize tmps.getD 92 undef = x92 at *
            generalize tmps.getD 93 undef = x93 at *
            generalize tmps.getD 94 undef = x94 at *
            generalize tmps.getD 95 undef = x95 at *
            generalize tmps.getD 96 undef = x96 at *
            generalize tmps.getD 97 undef = x97 at *
            generalize tmps.getD 98 undef = x98 at *
            generalize tmps.getD 99 undef = x99 at *
            generalize tmps.getD 100 undef = x100 at *
            generalize tmps.getD 101 undef = x101 at *
            generalize tmps.getD 102 undef = x102 at *
            generalize tmps.getD 103 undef = x103 at *
            generalize tmps.getD 104 undef = x104 at *
            generalize tmps.getD 105 undef = x105 at *
            generalize tmps.getD 106 undef = x106 at *
            generalize tmps.getD 107 undef = x107 at *
            generalize tmps.getD 108 undef = x108 at *
            generalize tmps.getD 109 undef = x109 at *
            simp only [Array.getD_eq_getD_getElem?, List.getElem?_toArray, List.getElem?_cons_succ, List.getElem?_cons_zero, Option.getD_some] at e
            subst e
            subst hk29
            have HB3 : Hid (Below w.heap.size w w3) := HFIN.out _ ho
            clear ho hR
            go_wp2_with fail
            go_ret
            exact ⟨by rw [HF2.out]; rfl, HB3.out⟩
      · have HW : Hid ((x1 == y1) = false) := by show _ = _; simp [hx]
        have HF2 : Hid (res = false) := HF.out (fun h => hx h.1)
        clear HF HT HBE hx
        go_wp2_with fail
        rw [HP3.out, HP2.out]
        have RB : ∀ k w w', Below w.heap.size w w' → (fun (_ : Nat) (_ : World) => True) k w → (fun (_ : Nat) (_ : World) => True) k w' := fun _ _ _ _ _ => trivial
        refine wp_region_st (rsW b2 b3 ba oa ca bb ob cb n j x1 y1) (fun u u' => Only [] u u') (SeqS [] (fun (_ : Nat) (_ : World) => True)) (by kernel_rfl) (only_drew _ _) (only_trans _) (rsW_kept b2 b3 ba oa ca bb ob cb n j x1 y1) (by kernel_rfl) (SeqS.start (trivial)) ?_ ?_
        · intro i o a' w' f hi inv hS hfi hfw hpre
          have ho : Only [] wr w' := inv.grow
          have hlt : i < 30 := (Array.getElem?_eq_some_iff.1 hi).1
          obtain rfl|rfl|rfl|rfl|rfl|rfl|rfl|rfl|rfl|rfl|rfl|rfl|rfl|rfl|rfl|rfl|rfl|rfl|rfl|rfl|rfl|rfl|rfl|rfl|rfl|rfl|rfl|rfl|rfl|rfl : i = 0 ∨ i = 1 ∨ i = 2 ∨ i = 3 ∨ i = 4 ∨ i = 5 ∨ i = 6 ∨ i = 7 ∨ i = 8 ∨ i = 9 ∨ i = 10 ∨ i = 11 ∨ i = 12 ∨ i = 13 ∨ i = 14 ∨ i = 15 ∨ i = 16 ∨ i = 17 ∨ i = 18 ∨ i = 19 ∨ i = 20 ∨ i = 21 ∨ i = 22 ∨ i = 23 ∨ i = 24 ∨ i = 25 ∨ i = 26 ∨ i = 27 ∨ i = 28 ∨ i = 29 := by omega
          · obtain rfl := Option.some.inj hi
            have h0 : a'.tmps.getD 2 undef = (.pointer (some ⟨b2, 0, none⟩)) := by rw [inv.old 2 (notDst_spec (by kernel_rfl))]; rfl
            exact sq_value _ rfl rfl (fa_run 30 8 2 b2 rfl h0 (fa30_8 b2)) (Below.refl _ _) (by decide) hS RB rfl
          · obtain rfl := Option.some.inj hi
            have h0 : a'.tmps.getD 80 undef = _ := pre_of hpre 0 80 (by kernel_rfl) (by kernel_rfl)
            exact sq_value _ rfl rfl (load_run 28 80 b2 (8) _ rfl h0 (ld28 (HC2.out w' ho))) (Below.refl _ _) (by decide) hS RB rfl
          · obtain rfl := Option.some.inj hi
            exact sq_value _ rfl rfl rfl (Below.refl _ _) (by decide) hS RB (by show a'.tmps.getD 5 undef = _; rw [inv.old 5 (notDst_spec (by kernel_rfl))]; rfl)
          · obtain rfl := Option.some.inj hi
            have h0 : a'.tmps.getD 81 undef = _ := pre_of hpre 1 81 (by kernel_rfl) (by kernel_rfl)
            have h1 : a'.tmps.getD 82 undef = _ := pre_of hpre 2 82 (by kernel_rfl) (by kernel_rfl)
            exact sq_value _ rfl rfl (idx28_run 81 82 ba oa n ca j rfl h0 h1 hjn) (Below.refl _ _) (by decide) hS RB rfl
          · obtain rfl := Option.some.inj hi
            have h0 : a'.tmps.getD 83 undef = _ := pre_of hpre 3 83 (by kernel_rfl) (by kernel_rfl)
            exact sq_value _ rfl rfl (fo_run 47 0 83 ba (oa + j * 2) rfl h0 (fo47_0 ba (oa + j * 2))) (Below.refl _ _) (by decide) hS RB rfl
          · obtain rfl := Option.some.inj hi
            have h0 : a'.tmps.getD 84 undef = _ := pre_of hpre 4 84 (by kernel_rfl) (by kernel_rfl)
            exact sq_value _ rfl rfl (load_run 3 84 ba (oa + j * 2 + 0) _ rfl h0 (ld3 (HA0.out w' ho))) (Below.refl _ _) (by decide) hS RB rfl
          · obtain rfl := Option.some.inj hi
            have h0 : a'.tmps.getD 3 undef = (.pointer (some ⟨b3, 0, none⟩)) := by rw [inv.old 3 (notDst_spec (by kernel_rfl))]; rfl
            exact sq_value _ rfl rfl (fa_run 30 8 3 b3 rfl h0 (fa30_8 b3)) (Below.refl _ _) (by decide) hS RB rfl
          · obtain rfl := Option.some.inj hi
            have h0 : a'.tmps.getD 86 undef = _ := pre_of hpre 6 86 (by kernel_rfl) (by kernel_rfl)
            exact sq_value _ rfl rfl (load_run 28 86 b3 (8) _ rfl h0 (ld28 (HC3.out w' ho))) (Below.refl _ _) (by decide) hS RB rfl
          · obtain rfl := Option.some.inj hi
            exact sq_value _ rfl rfl rfl (Below.refl _ _) (by decide) hS RB (by show a'.tmps.getD 5 undef = _; rw [inv.old 5 (notDst_spec (by kernel_rfl))]; rfl)
          · obtain rfl := Option.some.inj hi
            have h0 : a'.tmps.getD 87 undef = _ := pre_of hpre 7 87 (by kernel_rfl) (by kernel_rfl)
            have h1 : a'.tmps.getD 88 undef = _ := pre_of hpre 8 88 (by kernel_rfl) (by kernel_rfl)
            exact sq_value _ rfl rfl (idx28_run 87 88 bb ob n cb j rfl h0 h1 hjn) (Below.refl _ _) (by decide) hS RB rfl
          · obtain rfl := Option.some.inj hi
            have h0 : a'.tmps.getD 89 undef = _ := pre_of hpre 9 89 (by kernel_rfl) (by kernel_rfl)
            exact sq_value _ rfl rfl (fo_run 47 0 89 bb (ob + j * 2) rfl h0 (fo47_0 bb (ob + j * 2))) (Below.refl _ _) (by decide) hS RB rfl
          · obtain rfl := Option.some.inj hi
            have h0 : a'.tmps.getD 90 undef = _ := pre_of hpre 10 90 (by kernel_rfl) (by kernel_rfl)
            exact sq_value _ rfl rfl (load_run 3 90 bb (ob + j * 2 + 0) _ rfl h0 (ld3 (HB0.out w' ho))) (Below.refl _ _) (by decide) hS RB rfl
          · obtain rfl := Option.some.inj hi
            have h0 : a'.tmps.getD 85 undef = _ := pre_of hpre 5 85 (by kernel_rfl) (by kernel_rfl)
            have h1 : a'.tmps.getD 91 undef = _ := pre_of hpre 11 91 (by kernel_rfl) (by kernel_rfl)
            exact sq_value _ rfl rfl (neqN_run 85 91 _ _ rfl h0 h1) (Below.refl _ _) (by decide) hS RB (by show Value.bool _ = _; rw [HW.out]; rfl)
          · obtain rfl := Option.some.inj hi
            have h0 := pre_of hpre 12 92 (by kernel_rfl) (by kernel_rfl)
            exact sq_value _ rfl rfl (rfl) (Below.refl _ _) (by decide) hS RB h0
          · obtain rfl := Option.some.inj hi
            have hgu : a'.tmps.getD 93 undef = _ := pre_of hpre 13 93 (by kernel_rfl) (by kernel_rfl)
            exact sq_skip rfl (unwanted_of 13 93 true rfl (by kernel_rfl) hgu) (by decide) hS rfl
          · obtain rfl := Option.some.inj hi
            have hgu : a'.tmps.getD 93 undef = _ := pre_of hpre 13 93 (by kernel_rfl) (by kernel_rfl)
            exact sq_skip rfl (unwanted_of 13 93 true rfl (by kernel_rfl) hgu) (by decide) hS rfl
          · obtain rfl := Option.some.inj hi
            have hgu : a'.tmps.getD 93 undef = _ := pre_of hpre 13 93 (by kernel_rfl) (by kernel_rfl)
            exact sq_skip rfl (unwanted_of 13 93 true rfl (by kernel_rfl) hgu) (by decide) hS rfl
          · obtain rfl := Option.some.inj hi
            have hgu : a'.tmps.getD 93 undef = _ := pre_of hpre 13 93 (by kernel_rfl) (by kernel_rfl)
            exact sq_skip rfl (unwanted_of 13 93 true rfl (by kernel_rfl) hgu) (by decide) hS rfl
          · obtain rfl := Option.some.inj hi
            have hgu : a'.tmps.getD 93 undef = _ := pre_of hpre 13 93 (by kernel_rfl) (by kernel_rfl)
            exact sq_skip rfl (unwanted_of 13 93 true rfl (by kernel_rfl) hgu) (by decide) hS rfl
          · obtain rfl := Option.some.inj hi
            have hgu : a'.tmps.getD 93 undef = _ := pre_of hpre 13 93 (by kernel_rfl) (by kernel_rfl)
            exact sq_skip rfl (unwanted_of 13 93 true rfl (by kernel_rfl) hgu) (by decide) hS rfl
          · obtain rfl := Option.some.inj hi
            have hgu : a'.tmps.getD 93 undef = _ := pre_of hpre 13 93 (by kernel_rfl) (by kernel_rfl)
            exact sq_skip rfl (unwanted_of 13 93 true rfl (by kernel_rfl) hgu) (by decide) hS rfl
          · obtain rfl := Option.some.inj hi
            have hgu : a'.tmps.getD 93 undef = _ := pre_of hpre 13 93 (by kernel_rfl) (by kernel_rfl)
            exact sq_skip rfl (unwanted_of 13 93 true rfl (by kernel_rfl) hgu) (by decide) hS rfl
          · obtain rfl := Option.some.inj hi
            have hgu : a'.tmps.getD 93 undef = _ := pre_of hpre 13 93 (by kernel_rfl) (by kernel_rfl)
            exact sq_skip rfl (unwanted_of 13 93 true rfl (by kernel_rfl) hgu) (by decide) hS rfl
          · obtain rfl := Option.some.inj hi
            have hgu : a'.tmps.getD 93 undef = _ := pre_of hpre 13 93 (by kernel_rfl) (by kernel_rfl)
            exact sq_skip rfl (unwanted_of 13 93 true rfl (by kernel_rfl) hgu) (by decide) hS rfl
          · obtain rfl := Option.some.inj hi
            have hgu : a'.tmps.getD 93 undef = _ := pre_of hpre 13 93 (by kernel_rfl) (by kernel_rfl)
            exact sq_skip rfl (unwanted_of 13 93 true rfl (by kernel_rfl) hgu) (by decide) hS rfl
          · obtain rfl := Option.some.inj hi
            have hgu : a'.tmps.getD 93 undef = _ := pre_of hpre 13 93 (by kernel_rfl) (by kernel_rfl)
            exact sq_skip rfl (unwanted_of 13 93 true rfl (by kernel_rfl) hgu) (by decide) hS rfl
          · obtain rfl := Option.some.inj hi
            have hgu : a'.tmps.getD 93 undef = _ := pre_of hpre 13 93 (by kernel_rfl) (by kernel_rfl)
            exact sq_skip rfl (unwanted_of 13 93 true rfl (by kernel_rfl) hgu) (by decide) hS rfl
          · obtain rfl := Option.some.inj hi
            have hgu : a'.tmps.getD 93 undef = _ := pre_of hpre 13 93 (by kernel_rfl) (by kernel_rfl)
            exact sq_skip rfl (unwanted_of 13 93 true rfl (by kernel_rfl) hgu) (by decide) hS rfl
          · obtain rfl := Option.some.inj hi
            have hgu : a'.tmps.getD 93 undef = _ := pre_of hpre 13 93 (by kernel_rfl) (by kernel_rfl)
            exact sq_skip rfl (unwanted_of 13 93 true rfl (by kernel_rfl) hgu) (by decide) hS rfl
          · obtain rfl := Option.some.inj hi
            have h0 : a'.tmps.getD 93 undef = _ := pre_of hpre 13 93 (by kernel_rfl) (by kernel_rfl)
            exact sq_value _ rfl rfl (pick_run 93 true _ _ _ _ rfl h0 rfl rfl) (Below.refl _ _) (by decide) hS RB rfl
        · intro a' w3 f inv hS hall hd
          have hk29 := hd 29 109 (by kernel_rfl)
          have ho : Only [] wr w3 := inv.grow
          have hdf : a'.defers = [] := inv.defers
          have hsz : a'.tmps.size = 110 := inv.size
          have e := frame17 hsz (fun t ht => inv.old t (dstsIn_spec (ts := [80, 81, 82, 83, 84, 85, 86, 87, 88, 89, 90, 91, 92, 93, 94, 95, 96, 97, 98, 99, 100, 101, 102, 103, 104, 105, 106, 107, 108, 109]) (by kernel_rfl) t ht))
          have hR := hS.done (fun c hc => hall c (show c < 30 by simp at hc <;> omega))
          clear inv hd hsz hall hS
          obtain ⟨tmps, defers⟩ := a'
          obtain rfl : defers = [] := hdf
          replace e : tmps = _ := e
          replace hk29 : tmps.getD 109 undef = (.bool true) := hk29
          generalize tmps.getD 80 undef = x80 at *
          generalize tmps.getD 81 undef = x81 at *
          generalize tmps.getD 82 undef = x82 at *
          generalize tmps.getD 83 undef = x83 at *
          generalize tmps.getD 84 undef = x84 at *
          generalize tmps.getD 85 undef = x85 at *
          generalize tmps.getD 86 undef = x86 at *
          generalize tmps.getD 87 undef = x87 at *
          generalize tmps.getD 88 undef = x88 at *
          generalize tmps.getD 89 undef = x89 at *
          generalize tmps.getD 90 undef = x90 at *
          generalize tmps.getD 91 undef = x91 at *
          generalize tmps.getD 92 undef = x92 at *
          generalize tmps.getD 93 undef = x93 at *
          generalize tmps.getD 94 undef = x94 at *
          generalize tmps.getD 95 undef = x95 at *
          generalize tmps.getD 96 undef = x96 at *
          generalize tmps.getD 97 undef = x97 at *
          generalize tmps.getD 98 undef = x98 at *
          generalize tmps.getD 99 undef = x99 at *
          generalize tmps.getD 100 undef = x100 at *
          generalize tmps.getD 101 undef = x101 at *
          generalize tmps.getD 102 undef = x102 at *
          generalize tmps.getD 103 undef = x103 at *
          generalize tmps.getD 104 undef = x104 at *
          generalize tmps.getD 105 undef = x105 at *
          generalize tmps.getD 106 undef = x106 at *
          generalize tmps.getD 107 undef = x107 at *
          generalize tmps.getD 108 undef = x108 at *
          generalize tmps.getD 109 undef = x109 at *
          simp only [Array.getD_eq_getD_getElem?, List.getElem?_toArray, List.getElem?_cons_succ, List.getElem?_cons_zero, Option.getD_some] at e
          subst e
          subst hk29
          have HB3 : Hid (Below w.heap.size w w3) := HFIN.out _ ho
          clear ho hR
          go_wp2_with fail
          go_ret
          exact ⟨by rw [HF2.out]; rfl, HB3.out⟩
    · obtain rfl : j = n := by omega
      have j1 : ¬ (j : Int) < (j : Int) := by omega
      have HT : Hid (res = true) := by
        show _ = _
        rw [← HR.out]
        apply decide_eq_true
        have := HE.out
        rwa [List.take_of_length_le (by rw [HN.out]; omega), List.take_of_length_le (by rw [HM.out]; omega)] at this
      clear HE
      go_wp2_with fail
      go_ret
      exact ⟨by rw [HT.out]; rfl, HBW.out⟩
end Go.Proofs.Ytiihdpkpgcmioaa.E9
