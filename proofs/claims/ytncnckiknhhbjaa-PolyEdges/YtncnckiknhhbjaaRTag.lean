/- The document's answer: Tag. -/
import Derived.Test.YtncnckiknhhbjaaRLeast
namespace Go.Proofs.Ytncnckiknhhbjaa
open Go.RowKit
theorem digit_of {l : List Nat} (h : ∀ x ∈ l, x < 256) (i : Nat) : Po.pos 256 l / 256 ^ i % 256 = Sp.nth l i := by
  have h1 := sum_byte l [] i
  have h2 : car l [] i = 0 := by
    unfold car
    apply Nat.div_eq_of_lt
    have := take_lt h i
    simpa [Po.pos] using this
  have h3 : Sp.nth ([] : List Nat) i = 0 := rfl
  rw [h2, h3] at h1
  have h4 : Sp.nth l i < 256 := Sp.nth_lt (by decide) h i
  simp only [Po.pos, Nat.add_zero, Nat.zero_add] at h1
  rw [h1, Nat.mod_eq_of_lt h4]
/-- A row of numbers that may be written, at the beginning of a block. -/
structure RR (w : World) (g : Nat) (l : List Nat) : Prop where
  range : w.rangeAt g 0 (ints .i64 l)
  there_ : w.there g 0 l.length
theorem RR.cell {w : World} {g : Nat} {l : List Nat} (h : RR w g l) (i : Nat) (hi : i < l.length) : w.cell? ⟨g, i, none⟩ = some (.int .i64 (Sp.nth l i : Nat)) := by
  have := range_cell h.range i hi
  rwa [Nat.zero_add] at this
theorem RR.may {w : World} {g : Nat} {l : List Nat} (h : RR w g l) (i : Nat) (hi : i < l.length) : w.frozen? ⟨g, i, none⟩ = false := by
  have := (h.there_ i hi).2
  rwa [Nat.zero_add] at this
theorem RR.set {w : World} {g : Nat} {l : List Nat} (h : RR w g l) (i x : Nat) (hi : i < l.length) : RR (w.setCell ⟨g, i, none⟩ (.int .i64 (x : Nat))) g (l.set i x) :=
  ⟨rangeAt_set h.range h.there_ i x hi, by rw [List.length_set]; exact there_set h.there_ i⟩
theorem RR.lt {w : World} {g : Nat} {l : List Nat} (h : RR w g l) (hl : 0 < l.length) : g < w.heap.size := range_lt h.range hl
set_option maxHeartbeats 2000000 in
theorem rtag_any (key text : List Nat) (bk ok ck n ct : Nat) (pt : Option Addr) (w : World) (hk : key.length = 32) (hkb : ∀ x ∈ key, x < 256) (hkr : w.rangeAt bk ok (ints .u8 key)) (hck : 32 ≤ ck)
    (hT : TextIs w pt text) (htl : text.length = n) (hnl : n ≤ 600) (hct : n ≤ ct) :
    Calls Try.prog 11 #[.slice (some ⟨bk, ok, none⟩) 32 ck, .slice pt n ct] w fun e w' => ∃ v, e = .returned v ∧ w'.ownsRow w.heap.size 5 1 v 16 (ints .u8 (Po.tag key text)) ∧ Below w.heap.size w w' := by
  have HKL : Hid (key.length = 32) := hk
  have HKB : Hid (∀ x ∈ key, x < 256) := hkb
  have HKR : Hid (w.rangeAt bk ok (ints .u8 key)) := hkr
  have HT : Hid (TextIs w pt text) := hT
  have HTL : Hid (text.length = n) := htl
  have HMK : Hid (m2 (m1 (key.take 16) 4) 3 = Po.clamp (key.take 16)) := masks _ (by rw [List.length_take, hk]; rfl)
  have HK16 : Hid ((key.take 16).length = 16) := by
    show _ = _
    rw [List.length_take, hk]; rfl
  clear hk hkb hkr hT htl
  obtain ⟨TG, hTG⟩ : ∃ TG, Po.tag key text = TG := ⟨_, rfl⟩
  rw [hTG]
  have HTGE : Hid (Po.tag key text = TG) := hTG
  clear hTG
  have hck1 : (16 : Int) ≤ (ck : Int) := by omega
  have hck2 : ¬ ck = 16 := by omega
  go_enter Try.func11, Try.ntmps11
  go_wp2_with fail
  refine (rnumber_any (key.take 16) (some ⟨bk, ok, none⟩) 16 ck w ⟨lt_take HKB.out 16, fun _ => ⟨bk, ok, rfl, range_take HKR.out 16⟩⟩ HK16.out (by decide)).mono ?_
  rintro e w1 ⟨v1, rfl, ho1, hb1⟩
  obtain ⟨g, cg, rfl, hgb, hgl, hcg, hr1⟩ := own_cell ho1 (by decide)
  have HR1 : Hid (RR w1 g (key.take 16)) := ⟨hr1, by rw [HK16.out]; exact (own_there ho1).1⟩
  have HB1 : Hid (Below w.heap.size w w1) := hb1
  have HKB1 : Hid (∀ x ∈ key.take 16, x < 256) := lt_take HKB.out 16
  clear ho1 hb1 hr1 hgl
  have HCE : Hid (Po.pos 256 (Po.clamp (key.take 16)) = Po.rOf key) := by
    show _ = _
    rw [clamp_take]; rfl
  have HCL : Hid ((Po.clamp (key.take 16)).length = 16) := Po.clamp_length _
  have HCB : Hid (∀ x ∈ Po.clamp (key.take 16), x < 256) := Po.clamp_lt HKB1.out
  generalize Po.clamp (key.take 16) = CL at *
  generalize key.take 16 = K1 at *
  go_wp2_with fail
  go_loopw [6] (fun i wr => ∃ k : Nat, k ≤ 4 ∧ i = .int .i64 ((4 * k + 3 : Nat) : Int) ∧ Hid (RR wr g (m1 K1 k)) ∧ Hid (w1.grownBy wr (some g))) (fun i _ => 20 - (intOf i).toNat)
  case atStart => exact ⟨0, by omega, rfl, HR1.out, grownBy_refl _ _⟩
  case round =>
    clear HR1
    obtain ⟨k, hk, rfl, H3, G3⟩ := hrel
    by_cases hlt : k < 4
    · have hl3 : 4 * k + 3 < (m1 K1 k).length := by rw [m1_length, HK16.out]; omega
      have ckk := H3.out.cell (4 * k + 3) hl3
      have fk := H3.out.may (4 * k + 3) hl3
      have xk : Sp.nth (m1 K1 k) (4 * k + 3) < 256 := Sp.nth_lt (by decide) (m1_lt HKB1.out k) _
      have HS : Hid (RR (wr.setCell ⟨g, 4 * k + 3, none⟩ (.int .i64 ((Sp.nth (m1 K1 k) (4 * k + 3) % 16 : Nat) : Int))) g (m1 K1 (k + 1))) := H3.out.set _ _ hl3
      have HG : Hid (w1.grownBy (wr.setCell ⟨g, 4 * k + 3, none⟩ (.int .i64 ((Sp.nth (m1 K1 k) (4 * k + 3) % 16 : Nat) : Int))) (some g)) := grownBy_set G3.out _ _
      clear H3 G3 hl3
      generalize Sp.nth (m1 K1 k) (4 * k + 3) = y at *
      have m16 : (y : Int).tmod 16 = ((y % 16 : Nat) : Int) := by rw [Int.tmod_eq_emod_of_nonneg (by omega)]; omega
      generalize y % 16 = ym at *
      obtain ⟨j, hj⟩ : ∃ j, 4 * k + 3 = j := ⟨_, rfl⟩
      rw [hj] at ckk fk HS HG ⊢
      have j0 : (0 : Int) ≤ (j : Int) := by omega
      have j1 : (j : Int) < 16 := by omega
      have HJ : Hid (4 * k + 3 = j) := hj
      clear hj
      go_wp2_with fail
      go_roundw
      case rel => exact ⟨k + 1, by omega, by have := HJ.out; go_num, HS.out, HG.out⟩
      case measure => have := HJ.out; simp [intOf]; omega
    · obtain rfl : k = 4 := by omega
      have HM1 : Hid (∀ x ∈ m1 K1 4, x < 256) := m1_lt HKB1.out 4
      have HML : Hid ((m1 K1 4).length = 16) := by show _ = _; rw [m1_length]; exact HK16.out
      generalize m1 K1 4 = L1 at *
      generalize hw3 : wr = w3 at *
      clear hw3
      go_wp2_with fail
      go_loopw [7] (fun i wr => ∃ k : Nat, k ≤ 3 ∧ i = .int .i64 ((4 * k + 4 : Nat) : Int) ∧ Hid (RR wr g (m2 L1 k)) ∧ Hid (w1.grownBy wr (some g))) (fun i _ => 20 - (intOf i).toNat)
      case atStart => exact ⟨0, by omega, rfl, H3.out, G3.out⟩
      case round =>
        clear H3 G3
        obtain ⟨k, hk, rfl, H3, G3⟩ := hrel
        by_cases hlt : k < 3
        · have hl3 : 4 * k + 4 < (m2 L1 k).length := by rw [m2_length, HML.out]; omega
          have ckk := H3.out.cell (4 * k + 4) hl3
          have fk := H3.out.may (4 * k + 4) hl3
          have xk : Sp.nth (m2 L1 k) (4 * k + 4) < 256 := Sp.nth_lt (by decide) (m2_lt HM1.out k) _
          have HS : Hid (RR (wr.setCell ⟨g, 4 * k + 4, none⟩ (.int .i64 ((Sp.nth (m2 L1 k) (4 * k + 4) / 4 * 4 : Nat) : Int))) g (m2 L1 (k + 1))) := H3.out.set _ _ hl3
          have HG : Hid (w1.grownBy (wr.setCell ⟨g, 4 * k + 4, none⟩ (.int .i64 ((Sp.nth (m2 L1 k) (4 * k + 4) / 4 * 4 : Nat) : Int))) (some g)) := grownBy_set G3.out _ _
          clear H3 G3 hl3
          generalize Sp.nth (m2 L1 k) (4 * k + 4) = y at *
          have d4 : (y : Int).tdiv 4 = ((y / 4 : Nat) : Int) := by rw [Int.tdiv_eq_ediv_of_nonneg (by omega)]; omega
          have y4 : y / 4 ≤ 63 := by omega
          generalize y / 4 = yd at *
          have e4 : ((yd * 4 : Nat) : Int) = (yd : Int) * 4 := by omega
          rw [e4] at HS HG
          obtain ⟨j, hj⟩ : ∃ j, 4 * k + 4 = j := ⟨_, rfl⟩
          rw [hj] at ckk fk HS HG ⊢
          have j0 : (0 : Int) ≤ (j : Int) := by omega
          have j1 : (j : Int) < 16 := by omega
          have HJ : Hid (4 * k + 4 = j) := hj
          clear hj
          go_wp2_with fail
          go_roundw
          case rel => exact ⟨k + 1, by omega, by have := HJ.out; go_num, HS.out, HG.out⟩
          case measure => have := HJ.out; simp [intOf]; omega
        · obtain rfl : k = 3 := by omega
          have h3 := H3.out
          rw [HMK.out] at h3
          have HRA : Hid (wr.rangeAt g 0 (ints .i64 CL)) := h3.range
          have HBA : Hid (Below w.heap.size w wr) := below_grown HB1.out G3.out hgb
          clear h3 H3 G3 HMK HM1 HML HB1 HKB1
          generalize hw4 : wr = w4 at *
          clear hw4
          obtain ⟨R, hR⟩ : ∃ R, Po.pos 256 CL = R := ⟨_, rfl⟩
          have HRE : Hid (R = Po.rOf key) := by
            show _ = _
            rw [← hR]; exact HCE.out
          have HRP : Hid (Po.pos 256 CL = R) := hR
          clear hR HCE
          go_wp2_with fail
          go_loopw [8, 9] (fun va u wr => ∃ (k : Nat) (a : List Nat), 16 * k < n + 16 ∧ u = .int .i64 ((16 * k : Nat) : Int) ∧ Hid (NumIs wr va a) ∧ Hid (∀ x ∈ a, x < 256) ∧ Hid (a.length ≤ 17 + 19 * k) ∧ Hid (Po.pos 256 a = Po.acc R text k) ∧ Hid (wr.rangeAt g 0 (ints .i64 CL)) ∧ Hid (Below w.heap.size w wr)) (fun _ u _ => n + 16 - (intOf u).toNat)
          case atStart => exact ⟨0, [], by omega, rfl, ⟨none, 0, rfl, by simp, fun h => absurd rfl h⟩, fun x hx => by simp at hx, by show _ ≤ _; simp, rfl, HRA.out, HBA.out⟩
          case round =>
            clear HRA HBA
            obtain ⟨k, a, hk, rfl, HN, HAB, HAL, HP, HRA, HB⟩ := hrel
            obtain ⟨pa, ca, rfl, hca, hra⟩ := HN.out
            by_cases hlt : 16 * k < n
            · obtain ⟨A, hA⟩ : ∃ A, 16 * k = A := ⟨_, rfl⟩
              rw [hA] at hlt hk ⊢
              obtain ⟨bt, ot, rfl, hrt⟩ := HT.out.2 (by intro e; have := HTL.out; rw [e] at this; simp at this; omega)
              have hrt2 : wr.rangeAt bt (ot + A) (ints .u8 ((text.drop A).take 16)) := range_take (range_drop (rangeAt_below HB.out hrt) A) 16
              obtain ⟨m, hm⟩ : ∃ m, min (A + 16) n - A = m := ⟨_, rfl⟩
              have hml : ((text.drop A).take 16).length = m := by rw [List.length_take, List.length_drop, HTL.out]; omega
              have HTX : Hid (TextIs wr (some ⟨bt, ot + A, none⟩) ((text.drop A).take 16)) := ⟨lt_take (lt_drop HT.out.1 A) 16, fun _ => ⟨_, _, rfl, hrt2⟩⟩
              have HMB : Hid (∀ x ∈ (text.drop A).take 16, x < 256) := lt_take (lt_drop HT.out.1 A) 16
              have HML : Hid (((text.drop A).take 16).length = m) := hml
              have HPT : Hid (Po.pos 256 ((text.drop A).take 16 ++ [1]) = Po.part text k) := by
                show _ = _
                rw [← hA]; rfl
              have hm16 : m ≤ 16 := by omega
              have hal : a.length ≤ 17 + 19 * k := HAL.out
              have hk19 : 17 + 19 * k ≤ 740 := by omega
              have HAK : Hid (16 * k = A) := hA
              have HLT : Hid (A < n) := hlt
              have a0 : (A : Int) < (n : Int) := by omega
              have a3 : ¬ ct = A := by omega
              have a4 : (n : Int) ≤ (ct : Int) := by omega
              have a5 : ¬ (ct : Int) < (A : Int) := by omega
              have hmm : (A + 16 ≤ n ∧ m = 16) ∨ (n < A + 16 ∧ m = n - A) := by omega
              clear hrt hrt2 hm hA hml HT hra
              generalize (text.drop A).take 16 = blk at *
              rcases hmm with ⟨hq1, rfl⟩ | ⟨hq1, hq2⟩
              · have e1 : ¬ (n : Int) < (A : Int) + 16 := by omega
                have e2 : (A : Int) + 16 ≤ (ct : Int) := by omega
                go_wp2_with fail
                first | rw [show ((A : Int) + 16).toNat - A = 16 from by omega] | skip
                refine (rnumber_any blk (some ⟨bt, ot + A, none⟩) 16 (ct - A) wr HTX.out HML.out (by omega)).mono ?_
                rintro e w5 ⟨v5, rfl, ho5, hb5⟩
                have HO5 : Hid (w5.ownsRow wr.heap.size 3 1 v5 16 (ints .i64 blk)) := ho5
                have HB5 : Hid (Below wr.heap.size wr w5) := hb5
                have hs5 := hb5.size
                clear ho5 hb5 HTX
                obtain ⟨q5, c5, rfl⟩ := own_slice HO5.out
                go_wp2_with (first | with_reducible (refine stop_builtin .append ?_))
                refine Stop.go ?_
                have hO6 : (w5.alloc (Obj.cells (arr .i64 [1]) 3)).ownsRow wr.heap.size 3 1 (.slice q5 16 c5) 16 (ints .i64 blk) := ownsRow_alloc HO5.out _
                refine law_ints_from wr.heap.size (.slice q5 16 c5) 16 blk w5.heap.size 0 1 1 [1] rfl rfl rfl hO6 (rangeAt_of_row (heap_alloc_new w5 _)) (by omega) (by simp; omega) ?_
                intro v6 w6 ho6 hg6
                have hb6 : Below wr.heap.size wr w6 := (HB5.out.alloc hs5 _).trans (below_grown' (Below.refl _ _) hg6 hO6 (by simp; omega) (Nat.le_refl _))
                have HN6 : Hid (NumIs w6 v6 (blk ++ [1])) := own_num ho6
                have HNA6 : Hid (NumIs w6 (.slice pa a.length ca) a) := HN.out.below hb6
                have HB6 : Hid (Below wr.heap.size wr w6) := hb6
                have HBL : Hid ((blk ++ [1]).length = 16 + 1) := by show _ = _; simp [HML.out]
                have HBB : Hid (∀ x ∈ blk ++ [1], x < 256) := fun x hx => by
                  rcases List.mem_append.1 hx with h | h
                  · exact HMB.out x h
                  · rw [List.mem_singleton.1 h]; decide
                clear ho6 hg6 hb6 hO6 HO5 HB5 hs5 HN HMB HML
                generalize blk ++ [1] = blk1 at *
                go_wp2_with fail
                refine (add_any a blk1 _ v6 w6 HNA6.out HN6.out HAB.out HBB.out (by omega) (by rw [HBL.out]; omega)).mono ?_
                rintro e w7 ⟨v7, su, rfl, hadd, ho7, hb7⟩
                have HN7 : Hid (NumIs w7 v7 su) := own_num ho7
                have HB7 : Hid (Below wr.heap.size wr w7) := HB6.out.trans (hb7.mono HB6.out.size)
                have HSB : Hid (∀ x ∈ su, x < 256) := hadd.small
                have HSV : Hid (Po.pos 256 su = Po.acc R text k + Po.part text k) := by
                  show _ = _
                  rw [hadd.val, HP.out, HPT.out]
                have hsl : su.length ≤ 18 + 19 * k := by
                  have h1 := hadd.up
                  rw [HBL.out] at h1
                  omega
                clear hadd ho7 hb7 HN6 HNA6 HB6 HBL HBB HAB HP HPT
                have HRC7 : Hid (NumIs w7 (.slice (some ⟨g, 0, none⟩) 16 cg) CL) := ⟨_, cg, by rw [HCL.out], by rw [HCL.out]; omega, fun _ => ⟨g, 0, rfl, rangeAt_below HB7.out HRA.out⟩⟩
                go_wp2_with fail
                refine (rtimes_any su CL v7 _ w7 HN7.out HRC7.out HSB.out HCB.out (by omega) (by rw [HCL.out]; decide)).mono ?_
                rintro e w8 ⟨v8, pr, rfl, hn8, hl8, hb8s, hv8, hb8⟩
                have HN8 : Hid (NumIs w8 v8 pr) := hn8
                have HB8 : Hid (Below wr.heap.size wr w8) := HB7.out.trans (hb8.mono HB7.out.size)
                have HPB : Hid (∀ x ∈ pr, x < 256) := hb8s
                have HPV : Hid (Po.pos 256 pr = (Po.acc R text k + Po.part text k) * R) := by
                  show _ = _
                  rw [hv8, HSV.out, HRP.out]
                have hpl : pr.length ≤ 35 + 19 * k := by rw [hl8, HCL.out]; omega
                clear hn8 hl8 hb8s hv8 hb8 HN7 HB7 HSB HSV HRC7
                go_wp2_with fail
                refine (rleast_any pr v8 w8 HN8.out HPB.out (by omega)).mono ?_
                rintro e w9 ⟨v9, a9, rfl, hn9, hl9, hb9⟩
                have HN9 : Hid (NumIs w9 v9 a9) := hn9
                have HB9' : Below wr.heap.size wr w9 := HB8.out.trans (hb9.mono HB8.out.size)
                have HB9 : Hid (Below w.heap.size w w9) := HB.out.trans (HB9'.mono HB.out.size)
                have HRA9 : Hid (w9.rangeAt g 0 (ints .i64 CL)) := rangeAt_below HB9' HRA.out
                have HAB9 : Hid (∀ x ∈ a9, x < 256) := hl9.small
                have HAL9 : Hid (a9.length ≤ 17 + 19 * (k + 1)) := by
                  have := hl9.len
                  show _ ≤ _
                  omega
                have HP9 : Hid (Po.pos 256 a9 = Po.acc R text (k + 1)) := by
                  show _ = _
                  rw [hl9.val, HPV.out]
                  rfl
                clear hn9 hl9 hb9 HB9' HN8 HB8 HPB HPV HRA HB
                go_wp2_with fail
                go_roundw
                case rel =>
                  first
                    | exact ⟨k + 1, a9, (by have := HAK.out; omega), (by have := HAK.out; go_num), HN9.out, HAB9.out, HAL9.out, HP9.out, HRA9.out, HB9.out⟩
                    | ((repeat apply Exists.intro)
                       refine ⟨⟨k + 1, a9, (by have := HAK.out; omega), ?_, HN9.out, HAB9.out, HAL9.out, HP9.out, HRA9.out, HB9.out⟩, rfl⟩
                       have := HAK.out
                       go_num)
                case measure => have := HAK.out; have := HLT.out; simp [intOf]; omega
              · have e1 : (n : Int) < (A : Int) + 16 := by omega
                have HQ2 : Hid (m = n - A) := hq2
                clear hq2
                go_wp2_with fail
                first | rw [show n - A = m from HQ2.out.symm] | skip
                refine (rnumber_any blk (some ⟨bt, ot + A, none⟩) m (ct - A) wr HTX.out HML.out (by omega)).mono ?_
                rintro e w5 ⟨v5, rfl, ho5, hb5⟩
                have HO5 : Hid (w5.ownsRow wr.heap.size 3 1 v5 m (ints .i64 blk)) := ho5
                have HB5 : Hid (Below wr.heap.size wr w5) := hb5
                have hs5 := hb5.size
                clear ho5 hb5 HTX
                obtain ⟨q5, c5, rfl⟩ := own_slice HO5.out
                go_wp2_with (first | with_reducible (refine stop_builtin .append ?_))
                refine Stop.go ?_
                have hO6 : (w5.alloc (Obj.cells (arr .i64 [1]) 3)).ownsRow wr.heap.size 3 1 (.slice q5 m c5) m (ints .i64 blk) := ownsRow_alloc HO5.out _
                refine law_ints_from wr.heap.size (.slice q5 m c5) m blk w5.heap.size 0 1 1 [1] rfl rfl rfl hO6 (rangeAt_of_row (heap_alloc_new w5 _)) (by omega) (by simp; omega) ?_
                intro v6 w6 ho6 hg6
                have hb6 : Below wr.heap.size wr w6 := (HB5.out.alloc hs5 _).trans (below_grown' (Below.refl _ _) hg6 hO6 (by simp; omega) (Nat.le_refl _))
                have HN6 : Hid (NumIs w6 v6 (blk ++ [1])) := own_num ho6
                have HNA6 : Hid (NumIs w6 (.slice pa a.length ca) a) := HN.out.below hb6
                have HB6 : Hid (Below wr.heap.size wr w6) := hb6
                have HBL : Hid ((blk ++ [1]).length = m + 1) := by show _ = _; simp [HML.out]
                have HBB : Hid (∀ x ∈ blk ++ [1], x < 256) := fun x hx => by
                  rcases List.mem_append.1 hx with h | h
                  · exact HMB.out x h
                  · rw [List.mem_singleton.1 h]; decide
                clear ho6 hg6 hb6 hO6 HO5 HB5 hs5 HN HMB HML
                generalize blk ++ [1] = blk1 at *
                go_wp2_with fail
                refine (add_any a blk1 _ v6 w6 HNA6.out HN6.out HAB.out HBB.out (by omega) (by rw [HBL.out]; omega)).mono ?_
                rintro e w7 ⟨v7, su, rfl, hadd, ho7, hb7⟩
                have HN7 : Hid (NumIs w7 v7 su) := own_num ho7
                have HB7 : Hid (Below wr.heap.size wr w7) := HB6.out.trans (hb7.mono HB6.out.size)
                have HSB : Hid (∀ x ∈ su, x < 256) := hadd.small
                have HSV : Hid (Po.pos 256 su = Po.acc R text k + Po.part text k) := by
                  show _ = _
                  rw [hadd.val, HP.out, HPT.out]
                have hsl : su.length ≤ 18 + 19 * k := by
                  have h1 := hadd.up
                  rw [HBL.out] at h1
                  omega
                clear hadd ho7 hb7 HN6 HNA6 HB6 HBL HBB HAB HP HPT
                have HRC7 : Hid (NumIs w7 (.slice (some ⟨g, 0, none⟩) 16 cg) CL) := ⟨_, cg, by rw [HCL.out], by rw [HCL.out]; omega, fun _ => ⟨g, 0, rfl, rangeAt_below HB7.out HRA.out⟩⟩
                go_wp2_with fail
                refine (rtimes_any su CL v7 _ w7 HN7.out HRC7.out HSB.out HCB.out (by omega) (by rw [HCL.out]; decide)).mono ?_
                rintro e w8 ⟨v8, pr, rfl, hn8, hl8, hb8s, hv8, hb8⟩
                have HN8 : Hid (NumIs w8 v8 pr) := hn8
                have HB8 : Hid (Below wr.heap.size wr w8) := HB7.out.trans (hb8.mono HB7.out.size)
                have HPB : Hid (∀ x ∈ pr, x < 256) := hb8s
                have HPV : Hid (Po.pos 256 pr = (Po.acc R text k + Po.part text k) * R) := by
                  show _ = _
                  rw [hv8, HSV.out, HRP.out]
                have hpl : pr.length ≤ 35 + 19 * k := by rw [hl8, HCL.out]; omega
                clear hn8 hl8 hb8s hv8 hb8 HN7 HB7 HSB HSV HRC7
                go_wp2_with fail
                refine (rleast_any pr v8 w8 HN8.out HPB.out (by omega)).mono ?_
                rintro e w9 ⟨v9, a9, rfl, hn9, hl9, hb9⟩
                have HN9 : Hid (NumIs w9 v9 a9) := hn9
                have HB9' : Below wr.heap.size wr w9 := HB8.out.trans (hb9.mono HB8.out.size)
                have HB9 : Hid (Below w.heap.size w w9) := HB.out.trans (HB9'.mono HB.out.size)
                have HRA9 : Hid (w9.rangeAt g 0 (ints .i64 CL)) := rangeAt_below HB9' HRA.out
                have HAB9 : Hid (∀ x ∈ a9, x < 256) := hl9.small
                have HAL9 : Hid (a9.length ≤ 17 + 19 * (k + 1)) := by
                  have := hl9.len
                  show _ ≤ _
                  omega
                have HP9 : Hid (Po.pos 256 a9 = Po.acc R text (k + 1)) := by
                  show _ = _
                  rw [hl9.val, HPV.out]
                  rfl
                clear hn9 hl9 hb9 HB9' HN8 HB8 HPB HPV HRA HB
                go_wp2_with fail
                go_roundw
                case rel =>
                  first
                    | exact ⟨k + 1, a9, (by have := HAK.out; omega), (by have := HAK.out; go_num), HN9.out, HAB9.out, HAL9.out, HP9.out, HRA9.out, HB9.out⟩
                    | ((repeat apply Exists.intro)
                       refine ⟨⟨k + 1, a9, (by have := HAK.out; omega), ?_, HN9.out, HAB9.out, HAL9.out, HP9.out, HRA9.out, HB9.out⟩, rfl⟩
                       have := HAK.out
                       go_num)
                case measure => have := HAK.out; have := HLT.out; simp [intOf]; omega
            · have hkp : k = Po.parts text := by
                unfold Po.parts
                rw [HTL.out]
                omega
              have hl0 : ¬ ((16 * k : Nat) : Int) < (n : Int) := by omega
              have hal : a.length ≤ 17 + 19 * k := HAL.out
              have hk19 : 17 + 19 * k ≤ 760 := by omega
              have HPA : Hid (Po.pos 256 a + Po.pos 256 (key.drop 16) = Po.tagN key text) := by
                show _ = _
                rw [HP.out, hkp, HRE.out]
                rfl
              have hkr := range_drop (rangeAt_below HB.out HKR.out) 16
              have HTX : Hid (TextIs wr (some ⟨bk, ok + 16, none⟩) (key.drop 16)) := ⟨lt_drop HKB.out 16, fun _ => ⟨_, _, rfl, hkr⟩⟩
              have HDL : Hid ((key.drop 16).length = 16) := by
                show _ = _
                rw [List.length_drop, HKL.out]
              have HDB : Hid (∀ x ∈ key.drop 16, x < 256) := lt_drop HKB.out 16
              clear hkr HP HRE HRP HRA HT hra
              generalize ((16 * k : Nat) : Int) = zA at *
              clear hkp hk hlt
              go_wp2_with fail
              generalize key.drop 16 = K2 at *
              refine (rnumber_any K2 (some ⟨bk, ok + 16, none⟩) 16 (ck - 16) wr HTX.out HDL.out (by omega)).mono ?_
              rintro e w5 ⟨v5, rfl, ho5, hb5⟩
              have HN5 : Hid (NumIs w5 v5 K2) := own_num ho5
              have HNA5 : Hid (NumIs w5 (.slice pa a.length ca) a) := HN.out.below hb5
              have HB5 : Hid (Below w.heap.size w w5) := HB.out.trans (hb5.mono HB.out.size)
              clear ho5 hb5 HTX HN HB
              go_wp2_with fail
              refine (add_any a K2 _ v5 w5 HNA5.out HN5.out HAB.out HDB.out (by omega) (by rw [HDL.out]; omega)).mono ?_
              rintro e w6 ⟨v6, S, rfl, hadd, ho6, hb6⟩
              have HN6 : Hid (NumIs w6 v6 S) := own_num ho6
              have HB6 : Hid (Below w.heap.size w w6) := HB5.out.trans (hb6.mono HB5.out.size)
              have HSN : Hid (∀ i, i < 16 → Sp.nth (Po.tag key text) i = Sp.nth S i) := fun i hi => by
                rw [tag_byte _ _ _ hi, ← HPA.out, ← hadd.val, digit_of hadd.small]
              have HSB : Hid (∀ x ∈ S, x < 256) := hadd.small
              have hsl : S.length ≤ 1000 := by
                have h1 := hadd.up
                rw [HDL.out] at h1
                omega
              have HTGL : Hid ((Po.tag key text).length = 16) := Po.tag_length _ _
              clear hadd ho6 hb6 HN5 HNA5 HB5 HPA HAB HDL HDB
              rw [HTGE.out] at HSN HTGL
              obtain ⟨p6, c6, rfl, hc6, hr6⟩ := HN6.out
              have HR6 : Hid (S ≠ [] → ∃ b o, p6 = some ⟨b, o, none⟩ ∧ w6.rangeAt b o (ints .i64 S)) := hr6
              obtain ⟨ls, hls⟩ : ∃ ls, S.length = ls := ⟨_, rfl⟩
              have HLS : Hid (S.length = ls) := hls
              rw [hls] at hsl hc6 ⊢
              clear hr6 hls HN6
              go_wp2_with fail
              go_loopw [11, 12] (fun sl u wr => ∃ i : Nat, i ≤ 16 ∧ u = .int .i64 i ∧ Hid (wr.ownsRow w6.heap.size 5 1 sl i (ints .u8 (TG.take i))) ∧ Hid (Below w6.heap.size w6 wr)) (fun _ u _ => 16 - (intOf u).toNat)
              case atStart => exact ⟨0, by omega, rfl, own_none _ _ _ _, Below.refl _ _⟩
              case round =>
                obtain ⟨i, hi, rfl, HO, HW⟩ := hrel
                obtain ⟨q, cq, rfl⟩ := own_slice HO.out
                have hbn := HW.out.size
                by_cases hlt : i < 16
                · have htn := HSN.out i hlt
                  have HTS : Hid (TG.take (i + 1) = TG.take i ++ [Sp.nth TG i]) := Po.take_succ_nth (by rw [HTGL.out]; exact hlt)
                  have xs : Sp.nth S i < 256 := Sp.nth_lt (by decide) HSB.out i
                  have g1 : (i : Int) < 16 := by omega
                  have i0 : (0 : Int) ≤ (i : Int) := by omega
                  by_cases his : i < ls
                  · obtain ⟨b6, o6, rfl, hr⟩ := HR6.out (by intro e; have := HLS.out; rw [e] at this; simp at this; omega)
                    have c1 := range_cell (rangeAt_below HW.out hr) i (by rw [HLS.out]; exact his)
                    have g2 : (i : Int) < (ls : Int) := by omega
                    clear hr
                    rw [← htn] at c1 xs
                    clear htn
                    generalize Sp.nth TG i = y at *
                    go_wp2_with (first | with_reducible (refine stop_builtin .append ?_))
                    refine Stop.go ?_
                    have HO2 : Hid ((wr.alloc (Obj.cells #[.int .u8 (y : Int)] 5)).ownsRow w6.heap.size 5 1 (.slice q i cq) i (ints .u8 (TG.take i))) := ownsRow_alloc HO.out _
                    have HW2 : Hid (Below w6.heap.size w6 (wr.alloc (Obj.cells #[.int .u8 (y : Int)] 5))) := HW.out.alloc hbn _
                    refine law_append_from w6.heap.size (.slice q i cq) i (TG.take i) wr.heap.size 0 1 1 [y] rfl rfl rfl HO2.out (rangeAt_of_row (heap_alloc_new wr _)) (by omega) (by simp; omega) ?_
                    intro v' w' hown' hg'
                    have HO3 : Hid (w'.ownsRow w6.heap.size 5 1 v' (i + 1) (ints .u8 (TG.take (i + 1)))) := by
                      rw [HTS.out]
                      exact hown'
                    have HW3 : Hid (Below w6.heap.size w6 w') := below_grown' HW2.out hg' HO2.out (by simp; omega) (Nat.le_refl _)
                    clear hown' hg' HO HW HO2 HW2 HTS c1
                    go_wp2_with fail
                    go_roundw
                    case rel =>
                      first
                        | exact ⟨i + 1, by omega, by go_num, HO3.out, HW3.out⟩
                        | ((repeat apply Exists.intro)
                           refine ⟨⟨i + 1, by omega, ?_, HO3.out, HW3.out⟩, rfl⟩
                           go_num)
                    case measure => simp [intOf]; omega
                  · have g2 : ¬ (i : Int) < (ls : Int) := by omega
                    rw [nth_beyond (l := S) (by rw [HLS.out]; omega)] at htn
                    rw [htn] at HTS
                    clear htn xs
                    go_wp2_with (first | with_reducible (refine stop_builtin .append ?_))
                    refine Stop.go ?_
                    have HO2 : Hid ((wr.alloc (Obj.cells #[.int .u8 0] 5)).ownsRow w6.heap.size 5 1 (.slice q i cq) i (ints .u8 (TG.take i))) := ownsRow_alloc HO.out _
                    have HW2 : Hid (Below w6.heap.size w6 (wr.alloc (Obj.cells #[.int .u8 0] 5))) := HW.out.alloc hbn _
                    refine law_append_from w6.heap.size (.slice q i cq) i (TG.take i) wr.heap.size 0 1 1 [0] rfl rfl rfl HO2.out (rangeAt_of_row (heap_alloc_new wr _)) (by omega) (by simp; omega) ?_
                    intro v' w' hown' hg'
                    have HO3 : Hid (w'.ownsRow w6.heap.size 5 1 v' (i + 1) (ints .u8 (TG.take (i + 1)))) := by
                      rw [HTS.out]
                      exact hown'
                    have HW3 : Hid (Below w6.heap.size w6 w') := below_grown' HW2.out hg' HO2.out (by simp; omega) (Nat.le_refl _)
                    clear hown' hg' HO HW HO2 HW2 HTS
                    go_wp2_with fail
                    go_roundw
                    case rel =>
                      first
                        | exact ⟨i + 1, by omega, by go_num, HO3.out, HW3.out⟩
                        | ((repeat apply Exists.intro)
                           refine ⟨⟨i + 1, by omega, ?_, HO3.out, HW3.out⟩, rfl⟩
                           go_num)
                    case measure => simp [intOf]; omega
                · obtain rfl : i = 16 := by omega
                  have h1 := HO.out
                  rw [List.take_of_length_le (by rw [HTGL.out]; exact Nat.le_refl _)] at h1
                  have HO1 : Hid (wr.ownsRow w.heap.size 5 1 (.slice q 16 cq) 16 (ints .u8 TG)) := own_base h1 HB6.out.size
                  have HW1 : Hid (Below w.heap.size w wr) := HB6.out.trans (HW.out.mono HB6.out.size)
                  clear h1 HO HW
                  go_wp2_with fail
                  go_ret
                  exact ⟨_, rfl, HO1.out, HW1.out⟩
end Go.Proofs.Ytncnckiknhhbjaa
