/- The walk of CodeApart. -/
import Derived.Test.YtcpojjhopbcjkaaC8ApartE
import Derived.Test.YtcpojjhopbcjkaaC8Late
namespace Go.Proofs.Ytcpojjhopbcjkaa.C8
open Go.RowKit
def r12t (ba bb oa ob j n c d : Nat) (ta tb : List Nat) : Nat → Value → World → Prop
  | 0 => IsV (.bool true)
  | 1 => IsV (.bool true)
  | 2 => IsV (.slice (some ⟨ba, oa, none⟩) n c)
  | 3 => IsV (.int .i64 (j : Int))
  | 4 => IsV (.pointer (some ⟨ba, oa + j * 3, none⟩))
  | 5 => IsV (.pointer (some ⟨ba, oa + j * 3 + 2, none⟩))
  | 6 => SrcV [] ta
  | 7 => IsV (.string (strB ta))
  | 8 => IsV (.slice (some ⟨bb, ob, none⟩) n d)
  | 9 => IsV (.int .i64 (j : Int))
  | 10 => IsV (.pointer (some ⟨bb, ob + j * 3, none⟩))
  | 11 => IsV (.pointer (some ⟨bb, ob + j * 3 + 2, none⟩))
  | 12 => SrcV [] tb
  | 13 => IsV (.string (strB tb))
  | 14 => IsV (.bool true)
  | 15 => IsV (.bool true)
  | 16 => IsV (.bool true)
  | _ => fun _ _ => True
theorem r12t_kept (ba bb oa ob j n c d : Nat) (ta tb : List Nat) : ∀ i v w w', r12t ba bb oa ob j n c d ta tb i v w → Only [] w w' → r12t ba bb oa ob j n c d ta tb i v w'
  | 0, _, _, _, h, _ => h
  | 1, _, _, _, h, _ => h
  | 2, _, _, _, h, _ => h
  | 3, _, _, _, h, _ => h
  | 4, _, _, _, h, _ => h
  | 5, _, _, _, h, _ => h
  | 6, _, _, _, h, ho => SrcV.kept h ho
  | 7, _, _, _, h, _ => h
  | 8, _, _, _, h, _ => h
  | 9, _, _, _, h, _ => h
  | 10, _, _, _, h, _ => h
  | 11, _, _, _, h, _ => h
  | 12, _, _, _, h, ho => SrcV.kept h ho
  | 13, _, _, _, h, _ => h
  | 14, _, _, _, h, _ => h
  | 15, _, _, _, h, _ => h
  | 16, _, _, _, h, _ => h
  | _ + 17, _, _, _, _, _ => trivial
def r12f (ba bb oa ob j n c d : Nat) (ta tb : List Nat) : Nat → Value → World → Prop
  | 0 => IsV (.bool true)
  | 1 => IsV (.bool true)
  | 2 => IsV (.slice (some ⟨ba, oa, none⟩) n c)
  | 3 => IsV (.int .i64 (j : Int))
  | 4 => IsV (.pointer (some ⟨ba, oa + j * 3, none⟩))
  | 5 => IsV (.pointer (some ⟨ba, oa + j * 3 + 2, none⟩))
  | 6 => SrcV [] ta
  | 7 => IsV (.string (strB ta))
  | 8 => IsV (.slice (some ⟨bb, ob, none⟩) n d)
  | 9 => IsV (.int .i64 (j : Int))
  | 10 => IsV (.pointer (some ⟨bb, ob + j * 3, none⟩))
  | 11 => IsV (.pointer (some ⟨bb, ob + j * 3 + 2, none⟩))
  | 12 => SrcV [] tb
  | 13 => IsV (.string (strB tb))
  | 14 => IsV (.bool false)
  | 15 => IsV (.bool false)
  | 16 => IsV (.bool false)
  | _ => fun _ _ => True
theorem r12f_kept (ba bb oa ob j n c d : Nat) (ta tb : List Nat) : ∀ i v w w', r12f ba bb oa ob j n c d ta tb i v w → Only [] w w' → r12f ba bb oa ob j n c d ta tb i v w'
  | 0, _, _, _, h, _ => h
  | 1, _, _, _, h, _ => h
  | 2, _, _, _, h, _ => h
  | 3, _, _, _, h, _ => h
  | 4, _, _, _, h, _ => h
  | 5, _, _, _, h, _ => h
  | 6, _, _, _, h, ho => SrcV.kept h ho
  | 7, _, _, _, h, _ => h
  | 8, _, _, _, h, _ => h
  | 9, _, _, _, h, _ => h
  | 10, _, _, _, h, _ => h
  | 11, _, _, _, h, _ => h
  | 12, _, _, _, h, ho => SrcV.kept h ho
  | 13, _, _, _, h, _ => h
  | 14, _, _, _, h, _ => h
  | 15, _, _, _, h, _ => h
  | 16, _, _, _, h, _ => h
  | _ + 17, _, _, _, _, _ => trivial
theorem frame7_12 {A F : Array Value} (hs : A.size = 105) (h : ∀ t, [5, 49, 50, 51, 52, 53, 54, 55, 56, 57, 58, 59, 60, 61, 62, 63, 64].contains t = false → A.getD t undef = F.getD t undef) : A = #[F.getD 0 undef, F.getD 1 undef, F.getD 2 undef, F.getD 3 undef, F.getD 4 undef, A.getD 5 undef, F.getD 6 undef, F.getD 7 undef, F.getD 8 undef, F.getD 9 undef, F.getD 10 undef, F.getD 11 undef, F.getD 12 undef, F.getD 13 undef, F.getD 14 undef, F.getD 15 undef, F.getD 16 undef, F.getD 17 undef, F.getD 18 undef, F.getD 19 undef, F.getD 20 undef, F.getD 21 undef, F.getD 22 undef, F.getD 23 undef, F.getD 24 undef, F.getD 25 undef, F.getD 26 undef, F.getD 27 undef, F.getD 28 undef, F.getD 29 undef, F.getD 30 undef, F.getD 31 undef, F.getD 32 undef, F.getD 33 undef, F.getD 34 undef, F.getD 35 undef, F.getD 36 undef, F.getD 37 undef, F.getD 38 undef, F.getD 39 undef, F.getD 40 undef, F.getD 41 undef, F.getD 42 undef, F.getD 43 undef, F.getD 44 undef, F.getD 45 undef, F.getD 46 undef, F.getD 47 undef, F.getD 48 undef, A.getD 49 undef, A.getD 50 undef, A.getD 51 undef, A.getD 52 undef, A.getD 53 undef, A.getD 54 undef, A.getD 55 undef, A.getD 56 undef, A.getD 57 undef, A.getD 58 undef, A.getD 59 undef, A.getD 60 undef, A.getD 61 undef, A.getD 62 undef, A.getD 63 undef, A.getD 64 undef, F.getD 65 undef, F.getD 66 undef, F.getD 67 undef, F.getD 68 undef, F.getD 69 undef, F.getD 70 undef, F.getD 71 undef, F.getD 72 undef, F.getD 73 undef, F.getD 74 undef, F.getD 75 undef, F.getD 76 undef, F.getD 77 undef, F.getD 78 undef, F.getD 79 undef, F.getD 80 undef, F.getD 81 undef, F.getD 82 undef, F.getD 83 undef, F.getD 84 undef, F.getD 85 undef, F.getD 86 undef, F.getD 87 undef, F.getD 88 undef, F.getD 89 undef, F.getD 90 undef, F.getD 91 undef, F.getD 92 undef, F.getD 93 undef, F.getD 94 undef, F.getD 95 undef, F.getD 96 undef, F.getD 97 undef, F.getD 98 undef, F.getD 99 undef, F.getD 100 undef, F.getD 101 undef, F.getD 102 undef, F.getD 103 undef, F.getD 104 undef] := by
  rw [← h 0 (by decide), ← h 1 (by decide), ← h 2 (by decide), ← h 3 (by decide), ← h 4 (by decide), ← h 6 (by decide), ← h 7 (by decide), ← h 8 (by decide), ← h 9 (by decide), ← h 10 (by decide), ← h 11 (by decide), ← h 12 (by decide), ← h 13 (by decide), ← h 14 (by decide), ← h 15 (by decide), ← h 16 (by decide), ← h 17 (by decide), ← h 18 (by decide), ← h 19 (by decide), ← h 20 (by decide), ← h 21 (by decide), ← h 22 (by decide), ← h 23 (by decide), ← h 24 (by decide), ← h 25 (by decide), ← h 26 (by decide), ← h 27 (by decide), ← h 28 (by decide), ← h 29 (by decide), ← h 30 (by decide), ← h 31 (by decide), ← h 32 (by decide), ← h 33 (by decide), ← h 34 (by decide), ← h 35 (by decide), ← h 36 (by decide), ← h 37 (by decide), ← h 38 (by decide), ← h 39 (by decide), ← h 40 (by decide), ← h 41 (by decide), ← h 42 (by decide), ← h 43 (by decide), ← h 44 (by decide), ← h 45 (by decide), ← h 46 (by decide), ← h 47 (by decide), ← h 48 (by decide), ← h 65 (by decide), ← h 66 (by decide), ← h 67 (by decide), ← h 68 (by decide), ← h 69 (by decide), ← h 70 (by decide), ← h 71 (by decide), ← h 72 (by decide), ← h 73 (by decide), ← h 74 (by decide), ← h 75 (by decide), ← h 76 (by decide), ← h 77 (by decide), ← h 78 (by decide), ← h 79 (by decide), ← h 80 (by decide), ← h 81 (by decide), ← h 82 (by decide), ← h 83 (by decide), ← h 84 (by decide), ← h 85 (by decide), ← h 86 (by decide), ← h 87 (by decide), ← h 88 (by decide), ← h 89 (by decide), ← h 90 (by decide), ← h 91 (by decide), ← h 92 (by decide), ← h 93 (by decide), ← h 94 (by decide), ← h 95 (by decide), ← h 96 (by decide), ← h 97 (by decide), ← h 98 (by decide), ← h 99 (by decide), ← h 100 (by decide), ← h 101 (by decide), ← h 102 (by decide), ← h 103 (by decide), ← h 104 (by decide)]
  refine Array.ext (by simp [hs]) (fun i h1 h2 => ?_)
  have e : A[i] = A.getD i undef := by simp [h1]
  rw [e]
  rw [hs] at h1
  clear e h hs
  match i, h1 with
  | 0, _ => rfl
  | 1, _ => rfl
  | 2, _ => rfl
  | 3, _ => rfl
  | 4, _ => rfl
  | 5, _ => rfl
  | 6, _ => rfl
  | 7, _ => rfl
  | 8, _ => rfl
  | 9, _ => rfl
  | 10, _ => rfl
  | 11, _ => rfl
  | 12, _ => rfl
  | 13, _ => rfl
  | 14, _ => rfl
  | 15, _ => rfl
  | 16, _ => rfl
  | 17, _ => rfl
  | 18, _ => rfl
  | 19, _ => rfl
  | 20, _ => rfl
  | 21, _ => rfl
  | 22, _ => rfl
  | 23, _ => rfl
  | 24, _ => rfl
  | 25, _ => rfl
  | 26, _ => rfl
  | 27, _ => rfl
  | 28, _ => rfl
  | 29, _ => rfl
  | 30, _ => rfl
  | 31, _ => rfl
  | 32, _ => rfl
  | 33, _ => rfl
  | 34, _ => rfl
  | 35, _ => rfl
  | 36, _ => rfl
  | 37, _ => rfl
  | 38, _ => rfl
  | 39, _ => rfl
  | 40, _ => rfl
  | 41, _ => rfl
  | 42, _ => rfl
  | 43, _ => rfl
  | 44, _ => rfl
  | 45, _ => rfl
  | 46, _ => rfl
  | 47, _ => rfl
  | 48, _ => rfl
  | 49, _ => rfl
  | 50, _ => rfl
  | 51, _ => rfl
  | 52, _ => rfl
  | 53, _ => rfl
  | 54, _ => rfl
  | 55, _ => rfl
  | 56, _ => rfl
  | 57, _ => rfl
  | 58, _ => rfl
  | 59, _ => rfl
  | 60, _ => rfl
  | 61, _ => rfl
  | 62, _ => rfl
  | 63, _ => rfl
  | 64, _ => rfl
  | 65, _ => rfl
  | 66, _ => rfl
  | 67, _ => rfl
  | 68, _ => rfl
  | 69, _ => rfl
  | 70, _ => rfl
  | 71, _ => rfl
  | 72, _ => rfl
  | 73, _ => rfl
  | 74, _ => rfl
  | 75, _ => rfl
  | 76, _ => rfl
  | 77, _ => rfl
  | 78, _ => rfl
  | 79, _ => rfl
  | 80, _ => rfl
  | 81, _ => rfl
  | 82, _ => rfl
  | 83, _ => rfl
  | 84, _ => rfl
  | 85, _ => rfl
  | 86, _ => rfl
  | 87, _ => rfl
  | 88, _ => rfl
  | 89, _ => rfl
  | 90, _ => rfl
  | 91, _ => rfl
  | 92, _ => rfl
  | 93, _ => rfl
  | 94, _ => rfl
  | 95, _ => rfl
  | 96, _ => rfl
  | 97, _ => rfl
  | 98, _ => rfl
  | 99, _ => rfl
  | 100, _ => rfl
  | 101, _ => rfl
  | 102, _ => rfl
  | 103, _ => rfl
  | 104, _ => rfl
  | _ + 105, h => exact absurd h (by omega)
set_option maxRecDepth 10000 in
set_option maxHeartbeats 8000000 in
theorem apart_main (ps qs : List Pt) (a b : Option Addr) (n c d : Nat) (w : World) (hn : ps.length = n) (hm : qs.length = n) (gn : n ≤ 9223372036854775807) (hp : PartRow w a ps) (hq : PartRow w b qs) (hs : sm ps = true) (ht : sm qs = true) :
    Calls Try.prog 7 #[.slice a n c, .slice b n d] w fun e w' => e = .returned (.bool true) ∧ Below w.heap.size w w' := by
  have HP : Hid (PartRow w a ps) := hp
  have HQ : Hid (PartRow w b qs) := hq
  have HN : Hid (ps.length = n ∧ qs.length = n) := ⟨hn, hm⟩
  have hl : n ≤ 20 := by
    have h := hs
    simp only [sm, Bool.and_eq_true, decide_eq_true_eq] at h
    omega
  have n1 : (n : Int) ≤ 20 := by omega
  clear hp hq
  go_enter Try.func7, Try.ntmps7
  go_wp2_with (go_at_call 9; refine (anchor_any _).mono ?_; rintro e w0 ⟨rfl, b0⟩; have B0 : Hid (Below w.heap.size w w0) := b0; clear b0)
  refine (small_any ps a n c w0 hn gn (HP.out.moved (bel_le B0.out (Nat.le_refl _)))).mono ?_
  rintro e w1 ⟨rfl, b1⟩
  have B1 : Hid (Below w.heap.size w w1) := B0.out.trans (bel_le b1 B0.out.size)
  clear b1
  rw [hs]
  go_wp2_with fail
  refine (small_any qs b n d w1 hm gn (HQ.out.moved (bel_le B1.out (Nat.le_refl _)))).mono ?_
  rintro e w2 ⟨rfl, b1⟩
  have B2 : Hid (Below w.heap.size w w2) := B1.out.trans (bel_le b1 B1.out.size)
  clear b1
  rw [ht]
  clear B0 B1 hs ht hn hm gn
  go_wp2_with fail
  go_loopw [5, 30] (fun sv i wr => ∃ j : Nat, j ≤ n ∧ i = .int .i64 j ∧ sv = .bool (sameP (ps.take j) (qs.take j)) ∧ Hid (Below w.heap.size w wr) ∧ Hid (∀ k (h : k < ps.length) (h' : k < qs.length), k < j → ps[k].isText = qs[k].isText)) (fun _ i _ => n - (intOf i).toNat)
  case atStart => exact ⟨0, by omega, rfl, rfl, B2.out, fun k _ _ h => by omega⟩
  case round =>
    obtain ⟨j, hj, rfl, rfl, HB, HSO⟩ := hrel
    by_cases hlt : j < n
    · have hjn : j < n := hlt
      have hjp : j < ps.length := by rw [HN.out.1]; exact hlt
      have hjq : j < qs.length := by rw [HN.out.2]; exact hlt
      obtain ⟨ba, oa, va, rfl, hba, da0, da1, da2, hsa, hta⟩ := HP.out.below HB.out j hjp
      obtain ⟨bb, ob, vb, rfl, hbb, db0, db1, db2, hsb, htb⟩ := HQ.out.below HB.out j hjq
      obtain ⟨spa, sca, rfl, -⟩ := hsa.1.slice
      obtain ⟨spb, scb, rfl, -⟩ := hsb.1.slice
      have j1 : (j : Int) < (n : Int) := by omega
      have j0 : (0 : Int) ≤ (j : Int) := by omega
      have HSS : Hid (sameP (ps.take (j + 1)) (qs.take (j + 1)) = (sameP (ps.take j) (qs.take j) && eqP ps[j] qs[j])) := by
        show _ = _
        rw [List.take_succ_eq_append_getElem hjp, List.take_succ_eq_append_getElem hjq, sameP_snoc _ _ _ _ (by rw [List.length_take, List.length_take]; omega)]
      have HSO1 : Hid (ps[j].isText = qs[j].isText → ∀ k (h : k < ps.length) (h' : k < qs.length), k < j + 1 → ps[k].isText = qs[k].isText) := fun h0 k h h' hk => by
        by_cases e : k = j
        · subst e; exact h0
        · exact HSO.out k h h' (by omega)
      generalize ps[j] = pa at *
      generalize qs[j] = pb at *
      obtain ⟨ia, na, ta⟩ := pa
      obtain ⟨ib, nb, tb⟩ := pb
      simp only at da0 da1 da2 db0 db1 db2 hsa hsb hta htb
      have HSA : Hid (∀ x ∈ ta, x < 256) := hsa.1.small
      have HSB : Hid (∀ x ∈ tb, x < 256) := hsb.1.small
      have HSRA : Hid (Src wr (.slice spa ta.length sca) ta) := hsa.1
      have HSRB : Hid (Src wr (.slice spb tb.length scb) tb) := hsb.1
      clear hsa hsb hta htb HSO hjp hjq
      by_cases hso : ia = ib
      · subst hso
        have HSO2 : Hid (∀ k (h : k < ps.length) (h' : k < qs.length), k < j + 1 → ps[k].isText = qs[k].isText) := HSO1.out rfl
        clear HSO1
        cases ia with
        | true =>
          rcases Bool.eq_false_or_eq_true (sameP (ps.take j) (qs.take j)) with hsm | hsm
          · by_cases he : ta = tb
            · have HSN : Hid (sameP (ps.take (j + 1)) (qs.take (j + 1)) = true) := by show _ = _; rw [HSS.out, hsm]; simp [eqP, he]
              have hbe : ((strB ta).toList == (strB tb).toList) = true := by rw [strB_beqL HSA.out HSB.out]; simp [he]
              rw [hsm]
              clear hsm HSS
              go_wp2_with fail
              go_quiet (fail)
              go_wp2_with fail
              have HDA : Hid (∀ w', Only [] (wr.drewN nq) w' → w'.cell? ⟨ba, oa + j * 3 + 2, none⟩ = some (.slice spa ta.length sca)) := fun w' ho => (World.cell?_of_block (a := ⟨ba, oa + j * 3 + 2, none⟩) (ho.block ba (Nat.lt_of_lt_of_le hba HB.out.size) (by simp))).trans da2
              have HDB : Hid (∀ w', Only [] (wr.drewN nq) w' → w'.cell? ⟨bb, ob + j * 3 + 2, none⟩ = some (.slice spb tb.length scb)) := fun w' ho => (World.cell?_of_block (a := ⟨bb, ob + j * 3 + 2, none⟩) (ho.block bb (Nat.lt_of_lt_of_le hbb HB.out.size) (by simp))).trans db2
              have HDS : Hid (∀ w', Only [] (wr.drewN nq) w' → SrcV [] ta (.slice spa ta.length sca) w') := fun w' ho => ⟨HSRA.out.only ((Only.drewN nq wr []).trans ho) (fun _ _ hx => by cases hx), fun _ _ _ hx => by cases hx⟩
              have HDT : Hid (∀ w', Only [] (wr.drewN nq) w' → SrcV [] tb (.slice spb tb.length scb) w') := fun w' ho => ⟨HSRB.out.only ((Only.drewN nq wr []).trans ho) (fun _ _ hx => by cases hx), fun _ _ _ hx => by cases hx⟩
              refine wp_region_sa (r12t ba bb oa ob j n c d ta tb) (fun u u' => Only [] u u') (LateS 16 5 (.bool true)) (by kernel_rfl) (only_drew _ _) (only_trans _) (r12t_kept ba bb oa ob j n c d ta tb) (by kernel_rfl) (LateS.start rfl) ?_ ?_
              · intro i o a' w' f hi inv hS hfi hfw hpre
                have ho : Only [] (wr.drewN nq) w' := inv.grow
                have hlt : i < 17 := (Array.getElem?_eq_some_iff.1 hi).1
                obtain rfl|rfl|rfl|rfl|rfl|rfl|rfl|rfl|rfl|rfl|rfl|rfl|rfl|rfl|rfl|rfl|rfl : i = 0 ∨ i = 1 ∨ i = 2 ∨ i = 3 ∨ i = 4 ∨ i = 5 ∨ i = 6 ∨ i = 7 ∨ i = 8 ∨ i = 9 ∨ i = 10 ∨ i = 11 ∨ i = 12 ∨ i = 13 ∨ i = 14 ∨ i = 15 ∨ i = 16 := by omega
                · obtain rfl := Option.some.inj hi
                  exact lt_value _ rfl rfl rfl hS (by decide) (by decide) (hS.here hfi)
                · obtain rfl := Option.some.inj hi
                  have h0 := pre_of hpre 0 49 (by kernel_rfl) (by kernel_rfl)
                  exact lt_value _ rfl rfl (rfl) hS (by decide) (by decide) h0
                · obtain rfl := Option.some.inj hi
                  have hgu : a'.tmps.getD 50 undef = _ := pre_of hpre 1 50 (by kernel_rfl) (by kernel_rfl)
                  exact lt_value _ rfl (wanted_of 1 50 true rfl (by kernel_rfl) hgu) rfl hS (by decide) (by decide) (by show a'.tmps.getD 0 undef = _; rw [inv.old 0 (notDst_spec (by kernel_rfl))]; rfl)
                · obtain rfl := Option.some.inj hi
                  have hgu : a'.tmps.getD 50 undef = _ := pre_of hpre 1 50 (by kernel_rfl) (by kernel_rfl)
                  exact lt_value _ rfl (wanted_of 1 50 true rfl (by kernel_rfl) hgu) rfl hS (by decide) (by decide) (by show a'.tmps.getD 6 undef = _; rw [inv.old 6 (notDst_spec (by kernel_rfl))]; rfl)
                · obtain rfl := Option.some.inj hi
                  have hgu : a'.tmps.getD 50 undef = _ := pre_of hpre 1 50 (by kernel_rfl) (by kernel_rfl)
                  have h0 : a'.tmps.getD 51 undef = _ := pre_of hpre 2 51 (by kernel_rfl) (by kernel_rfl)
                  have h1 : a'.tmps.getD 52 undef = _ := pre_of hpre 3 52 (by kernel_rfl) (by kernel_rfl)
                  exact lt_value _ rfl (wanted_of 1 50 true rfl (by kernel_rfl) hgu) (idx22_run 51 52 ba oa n c j rfl h0 h1 hjn) hS (by decide) (by decide) rfl
                · obtain rfl := Option.some.inj hi
                  have hgu : a'.tmps.getD 50 undef = _ := pre_of hpre 1 50 (by kernel_rfl) (by kernel_rfl)
                  have h0 : a'.tmps.getD 53 undef = _ := pre_of hpre 4 53 (by kernel_rfl) (by kernel_rfl)
                  exact lt_value _ rfl (wanted_of 1 50 true rfl (by kernel_rfl) hgu) (fo_run 30 2 53 ba (oa + j * 3) rfl h0 (fo30_2 ba (oa + j * 3))) hS (by decide) (by decide) rfl
                · obtain rfl := Option.some.inj hi
                  have hgu : a'.tmps.getD 50 undef = _ := pre_of hpre 1 50 (by kernel_rfl) (by kernel_rfl)
                  have h0 : a'.tmps.getD 54 undef = _ := pre_of hpre 5 54 (by kernel_rfl) (by kernel_rfl)
                  exact lt_value _ rfl (wanted_of 1 50 true rfl (by kernel_rfl) hgu) (load_run 25 54 ba (oa + j * 3 + 2) _ rfl h0 (ld25 (HDA.out w' ho))) hS (by decide) (by decide) (HDS.out w' ho)
                · obtain rfl := Option.some.inj hi
                  have hgu : a'.tmps.getD 50 undef = _ := pre_of hpre 1 50 (by kernel_rfl) (by kernel_rfl)
                  have h0 := pre_of hpre 6 55 (by kernel_rfl) (by kernel_rfl)
                  exact lt_value _ rfl (wanted_of 1 50 true rfl (by kernel_rfl) hgu) (conv_run 55 rfl (h0.1)) hS (by decide) (by decide) rfl
                · obtain rfl := Option.some.inj hi
                  have hgu : a'.tmps.getD 50 undef = _ := pre_of hpre 1 50 (by kernel_rfl) (by kernel_rfl)
                  exact lt_value _ rfl (wanted_of 1 50 true rfl (by kernel_rfl) hgu) rfl hS (by decide) (by decide) (by show a'.tmps.getD 1 undef = _; rw [inv.old 1 (notDst_spec (by kernel_rfl))]; rfl)
                · obtain rfl := Option.some.inj hi
                  have hgu : a'.tmps.getD 50 undef = _ := pre_of hpre 1 50 (by kernel_rfl) (by kernel_rfl)
                  exact lt_value _ rfl (wanted_of 1 50 true rfl (by kernel_rfl) hgu) rfl hS (by decide) (by decide) (by show a'.tmps.getD 6 undef = _; rw [inv.old 6 (notDst_spec (by kernel_rfl))]; rfl)
                · obtain rfl := Option.some.inj hi
                  have hgu : a'.tmps.getD 50 undef = _ := pre_of hpre 1 50 (by kernel_rfl) (by kernel_rfl)
                  have h0 : a'.tmps.getD 57 undef = _ := pre_of hpre 8 57 (by kernel_rfl) (by kernel_rfl)
                  have h1 : a'.tmps.getD 58 undef = _ := pre_of hpre 9 58 (by kernel_rfl) (by kernel_rfl)
                  exact lt_value _ rfl (wanted_of 1 50 true rfl (by kernel_rfl) hgu) (idx22_run 57 58 bb ob n d j rfl h0 h1 hjn) hS (by decide) (by decide) rfl
                · obtain rfl := Option.some.inj hi
                  have hgu : a'.tmps.getD 50 undef = _ := pre_of hpre 1 50 (by kernel_rfl) (by kernel_rfl)
                  have h0 : a'.tmps.getD 59 undef = _ := pre_of hpre 10 59 (by kernel_rfl) (by kernel_rfl)
                  exact lt_value _ rfl (wanted_of 1 50 true rfl (by kernel_rfl) hgu) (fo_run 30 2 59 bb (ob + j * 3) rfl h0 (fo30_2 bb (ob + j * 3))) hS (by decide) (by decide) rfl
                · obtain rfl := Option.some.inj hi
                  have hgu : a'.tmps.getD 50 undef = _ := pre_of hpre 1 50 (by kernel_rfl) (by kernel_rfl)
                  have h0 : a'.tmps.getD 60 undef = _ := pre_of hpre 11 60 (by kernel_rfl) (by kernel_rfl)
                  exact lt_value _ rfl (wanted_of 1 50 true rfl (by kernel_rfl) hgu) (load_run 25 60 bb (ob + j * 3 + 2) _ rfl h0 (ld25 (HDB.out w' ho))) hS (by decide) (by decide) (HDT.out w' ho)
                · obtain rfl := Option.some.inj hi
                  have hgu : a'.tmps.getD 50 undef = _ := pre_of hpre 1 50 (by kernel_rfl) (by kernel_rfl)
                  have h0 := pre_of hpre 12 61 (by kernel_rfl) (by kernel_rfl)
                  exact lt_value _ rfl (wanted_of 1 50 true rfl (by kernel_rfl) hgu) (conv_run 61 rfl (h0.1)) hS (by decide) (by decide) rfl
                · obtain rfl := Option.some.inj hi
                  have hgu : a'.tmps.getD 50 undef = _ := pre_of hpre 1 50 (by kernel_rfl) (by kernel_rfl)
                  have h0 : a'.tmps.getD 56 undef = _ := pre_of hpre 7 56 (by kernel_rfl) (by kernel_rfl)
                  have h1 : a'.tmps.getD 62 undef = _ := pre_of hpre 13 62 (by kernel_rfl) (by kernel_rfl)
                  exact lt_value _ rfl (wanted_of 1 50 true rfl (by kernel_rfl) hgu) (eqlS_run 56 62 _ _ rfl h0 h1) hS (by decide) (by decide) (by show Value.bool _ = _; rw [hbe])
                · obtain rfl := Option.some.inj hi
                  have h0 : a'.tmps.getD 50 undef = _ := pre_of hpre 1 50 (by kernel_rfl) (by kernel_rfl)
                  have h1 : a'.tmps.getD 63 undef = _ := pre_of hpre 14 63 (by kernel_rfl) (by kernel_rfl)
                  exact lt_value _ rfl rfl (pick_run 50 true _ _ _ _ rfl h0 h1 rfl) hS (by decide) (by decide) rfl
                · obtain rfl := Option.some.inj hi
                  have h0 := pre_of hpre 15 64 (by kernel_rfl) (by kernel_rfl)
                  exact lt_last _ rfl rfl rfl (been_of hfw 0 (by kernel_rfl)) (by decide) h0
              · intro a' w5 f inv hS hall hd
                have hk16 := hd 16 5 (by kernel_rfl)
                have ho : Only [] (wr.drewN nq) w5 := inv.grow
                have hdf : a'.defers = [] := inv.defers
                have hsz : a'.tmps.size = 105 := inv.size
                have e := frame7_12 hsz (fun t ht => inv.old t (dstsIn_spec (ts := [5, 49, 50, 51, 52, 53, 54, 55, 56, 57, 58, 59, 60, 61, 62, 63, 64]) (by kernel_rfl) t ht))
                clear inv hd hsz hall hS
                obtain ⟨tmps, defers⟩ := a'
                obtain rfl : defers = [] := hdf
                replace e : tmps = _ := e
                replace hk16 : tmps.getD 5 undef = (.bool true) := hk16
                generalize tmps.getD 5 undef = x5 at *
                generalize tmps.getD 49 undef = x49 at *
                generalize tmps.getD 50 undef = x50 at *
                generalize tmps.getD 51 undef = x51 at *
                generalize tmps.getD 52 undef = x52 at *
                generalize tmps.getD 53 undef = x53 at *
                generalize tmps.getD 54 undef = x54 at *
                generalize tmps.getD 55 undef = x55 at *
                generalize tmps.getD 56 undef = x56 at *
                generalize tmps.getD 57 undef = x57 at *
                generalize tmps.getD 58 undef = x58 at *
                generalize tmps.getD 59 undef = x59 at *
                generalize tmps.getD 60 undef = x60 at *
                generalize tmps.getD 61 undef = x61 at *
                generalize tmps.getD 62 undef = x62 at *
                generalize tmps.getD 63 undef = x63 at *
                generalize tmps.getD 64 undef = x64 at *
                simp only [Array.getD_eq_getD_getElem?, List.getElem?_toArray, List.getElem?_cons_succ, List.getElem?_cons_zero, Option.getD_some] at e
                subst e
                subst hk16
                have HB5 : Hid (Below w.heap.size w w5) := (HB.out.trans (below_drewN nq _ _)).trans (ho.below (by show _ ≤ wr.heap.size; exact HB.out.size) (by simp))
                clear ho HDA HDB HDS HDT
                go_wp2_with fail
                go_roundw
                case rel =>
                  first
                    | exact ⟨j + 1, by omega, by go_num, by rw [HSN.out], HB5.out, HSO2.out⟩
                    | ((repeat apply Exists.intro)
                       refine ⟨⟨j + 1, by omega, ?_, ?_, HB5.out, HSO2.out⟩, rfl⟩
                       · go_num
                       · rw [HSN.out])
                case measure => simp [intOf]; omega
            · have HSN : Hid (sameP (ps.take (j + 1)) (qs.take (j + 1)) = false) := by show _ = _; rw [HSS.out, hsm]; simp [eqP, he]
              have hbe : ((strB ta).toList == (strB tb).toList) = false := by rw [strB_beqL HSA.out HSB.out]; simp [he]
              rw [hsm]
              clear hsm HSS
              go_wp2_with fail
              go_quiet (fail)
              go_wp2_with fail
              have HDA : Hid (∀ w', Only [] (wr.drewN nq) w' → w'.cell? ⟨ba, oa + j * 3 + 2, none⟩ = some (.slice spa ta.length sca)) := fun w' ho => (World.cell?_of_block (a := ⟨ba, oa + j * 3 + 2, none⟩) (ho.block ba (Nat.lt_of_lt_of_le hba HB.out.size) (by simp))).trans da2
              have HDB : Hid (∀ w', Only [] (wr.drewN nq) w' → w'.cell? ⟨bb, ob + j * 3 + 2, none⟩ = some (.slice spb tb.length scb)) := fun w' ho => (World.cell?_of_block (a := ⟨bb, ob + j * 3 + 2, none⟩) (ho.block bb (Nat.lt_of_lt_of_le hbb HB.out.size) (by simp))).trans db2
              have HDS : Hid (∀ w', Only [] (wr.drewN nq) w' → SrcV [] ta (.slice spa ta.length sca) w') := fun w' ho => ⟨HSRA.out.only ((Only.drewN nq wr []).trans ho) (fun _ _ hx => by cases hx), fun _ _ _ hx => by cases hx⟩
              have HDT : Hid (∀ w', Only [] (wr.drewN nq) w' → SrcV [] tb (.slice spb tb.length scb) w') := fun w' ho => ⟨HSRB.out.only ((Only.drewN nq wr []).trans ho) (fun _ _ hx => by cases hx), fun _ _ _ hx => by cases hx⟩
              refine wp_region_sa (r12f ba bb oa ob j n c d ta tb) (fun u u' => Only [] u u') (LateS 16 5 (.bool true)) (by kernel_rfl) (only_drew _ _) (only_trans _) (r12f_kept ba bb oa ob j n c d ta tb) (by kernel_rfl) (LateS.start rfl) ?_ ?_
              · intro i o a' w' f hi inv hS hfi hfw hpre
                have ho : Only [] (wr.drewN nq) w' := inv.grow
                have hlt : i < 17 := (Array.getElem?_eq_some_iff.1 hi).1
                obtain rfl|rfl|rfl|rfl|rfl|rfl|rfl|rfl|rfl|rfl|rfl|rfl|rfl|rfl|rfl|rfl|rfl : i = 0 ∨ i = 1 ∨ i = 2 ∨ i = 3 ∨ i = 4 ∨ i = 5 ∨ i = 6 ∨ i = 7 ∨ i = 8 ∨ i = 9 ∨ i = 10 ∨ i = 11 ∨ i = 12 ∨ i = 13 ∨ i = 14 ∨ i = 15 ∨ i = 16 := by omega
                · obtain rfl := Option.some.inj hi
                  exact lt_value _ rfl rfl rfl hS (by decide) (by decide) (hS.here hfi)
                · obtain rfl := Option.some.inj hi
                  have h0 := pre_of hpre 0 49 (by kernel_rfl) (by kernel_rfl)
                  exact lt_value _ rfl rfl (rfl) hS (by decide) (by decide) h0
                · obtain rfl := Option.some.inj hi
                  have hgu : a'.tmps.getD 50 undef = _ := pre_of hpre 1 50 (by kernel_rfl) (by kernel_rfl)
                  exact lt_value _ rfl (wanted_of 1 50 true rfl (by kernel_rfl) hgu) rfl hS (by decide) (by decide) (by show a'.tmps.getD 0 undef = _; rw [inv.old 0 (notDst_spec (by kernel_rfl))]; rfl)
                · obtain rfl := Option.some.inj hi
                  have hgu : a'.tmps.getD 50 undef = _ := pre_of hpre 1 50 (by kernel_rfl) (by kernel_rfl)
                  exact lt_value _ rfl (wanted_of 1 50 true rfl (by kernel_rfl) hgu) rfl hS (by decide) (by decide) (by show a'.tmps.getD 6 undef = _; rw [inv.old 6 (notDst_spec (by kernel_rfl))]; rfl)
                · obtain rfl := Option.some.inj hi
                  have hgu : a'.tmps.getD 50 undef = _ := pre_of hpre 1 50 (by kernel_rfl) (by kernel_rfl)
                  have h0 : a'.tmps.getD 51 undef = _ := pre_of hpre 2 51 (by kernel_rfl) (by kernel_rfl)
                  have h1 : a'.tmps.getD 52 undef = _ := pre_of hpre 3 52 (by kernel_rfl) (by kernel_rfl)
                  exact lt_value _ rfl (wanted_of 1 50 true rfl (by kernel_rfl) hgu) (idx22_run 51 52 ba oa n c j rfl h0 h1 hjn) hS (by decide) (by decide) rfl
                · obtain rfl := Option.some.inj hi
                  have hgu : a'.tmps.getD 50 undef = _ := pre_of hpre 1 50 (by kernel_rfl) (by kernel_rfl)
                  have h0 : a'.tmps.getD 53 undef = _ := pre_of hpre 4 53 (by kernel_rfl) (by kernel_rfl)
                  exact lt_value _ rfl (wanted_of 1 50 true rfl (by kernel_rfl) hgu) (fo_run 30 2 53 ba (oa + j * 3) rfl h0 (fo30_2 ba (oa + j * 3))) hS (by decide) (by decide) rfl
                · obtain rfl := Option.some.inj hi
                  have hgu : a'.tmps.getD 50 undef = _ := pre_of hpre 1 50 (by kernel_rfl) (by kernel_rfl)
                  have h0 : a'.tmps.getD 54 undef = _ := pre_of hpre 5 54 (by kernel_rfl) (by kernel_rfl)
                  exact lt_value _ rfl (wanted_of 1 50 true rfl (by kernel_rfl) hgu) (load_run 25 54 ba (oa + j * 3 + 2) _ rfl h0 (ld25 (HDA.out w' ho))) hS (by decide) (by decide) (HDS.out w' ho)
                · obtain rfl := Option.some.inj hi
                  have hgu : a'.tmps.getD 50 undef = _ := pre_of hpre 1 50 (by kernel_rfl) (by kernel_rfl)
                  have h0 := pre_of hpre 6 55 (by kernel_rfl) (by kernel_rfl)
                  exact lt_value _ rfl (wanted_of 1 50 true rfl (by kernel_rfl) hgu) (conv_run 55 rfl (h0.1)) hS (by decide) (by decide) rfl
                · obtain rfl := Option.some.inj hi
                  have hgu : a'.tmps.getD 50 undef = _ := pre_of hpre 1 50 (by kernel_rfl) (by kernel_rfl)
                  exact lt_value _ rfl (wanted_of 1 50 true rfl (by kernel_rfl) hgu) rfl hS (by decide) (by decide) (by show a'.tmps.getD 1 undef = _; rw [inv.old 1 (notDst_spec (by kernel_rfl))]; rfl)
                · obtain rfl := Option.some.inj hi
                  have hgu : a'.tmps.getD 50 undef = _ := pre_of hpre 1 50 (by kernel_rfl) (by kernel_rfl)
                  exact lt_value _ rfl (wanted_of 1 50 true rfl (by kernel_rfl) hgu) rfl hS (by decide) (by decide) (by show a'.tmps.getD 6 undef = _; rw [inv.old 6 (notDst_spec (by kernel_rfl))]; rfl)
                · obtain rfl := Option.some.inj hi
                  have hgu : a'.tmps.getD 50 undef = _ := pre_of hpre 1 50 (by kernel_rfl) (by kernel_rfl)
                  have h0 : a'.tmps.getD 57 undef = _ := pre_of hpre 8 57 (by kernel_rfl) (by kernel_rfl)
                  have h1 : a'.tmps.getD 58 undef = _ := pre_of hpre 9 58 (by kernel_rfl) (by kernel_rfl)
                  exact lt_value _ rfl (wanted_of 1 50 true rfl (by kernel_rfl) hgu) (idx22_run 57 58 bb ob n d j rfl h0 h1 hjn) hS (by decide) (by decide) rfl
                · obtain rfl := Option.some.inj hi
                  have hgu : a'.tmps.getD 50 undef = _ := pre_of hpre 1 50 (by kernel_rfl) (by kernel_rfl)
                  have h0 : a'.tmps.getD 59 undef = _ := pre_of hpre 10 59 (by kernel_rfl) (by kernel_rfl)
                  exact lt_value _ rfl (wanted_of 1 50 true rfl (by kernel_rfl) hgu) (fo_run 30 2 59 bb (ob + j * 3) rfl h0 (fo30_2 bb (ob + j * 3))) hS (by decide) (by decide) rfl
                · obtain rfl := Option.some.inj hi
                  have hgu : a'.tmps.getD 50 undef = _ := pre_of hpre 1 50 (by kernel_rfl) (by kernel_rfl)
                  have h0 : a'.tmps.getD 60 undef = _ := pre_of hpre 11 60 (by kernel_rfl) (by kernel_rfl)
                  exact lt_value _ rfl (wanted_of 1 50 true rfl (by kernel_rfl) hgu) (load_run 25 60 bb (ob + j * 3 + 2) _ rfl h0 (ld25 (HDB.out w' ho))) hS (by decide) (by decide) (HDT.out w' ho)
                · obtain rfl := Option.some.inj hi
                  have hgu : a'.tmps.getD 50 undef = _ := pre_of hpre 1 50 (by kernel_rfl) (by kernel_rfl)
                  have h0 := pre_of hpre 12 61 (by kernel_rfl) (by kernel_rfl)
                  exact lt_value _ rfl (wanted_of 1 50 true rfl (by kernel_rfl) hgu) (conv_run 61 rfl (h0.1)) hS (by decide) (by decide) rfl
                · obtain rfl := Option.some.inj hi
                  have hgu : a'.tmps.getD 50 undef = _ := pre_of hpre 1 50 (by kernel_rfl) (by kernel_rfl)
                  have h0 : a'.tmps.getD 56 undef = _ := pre_of hpre 7 56 (by kernel_rfl) (by kernel_rfl)
                  have h1 : a'.tmps.getD 62 undef = _ := pre_of hpre 13 62 (by kernel_rfl) (by kernel_rfl)
                  exact lt_value _ rfl (wanted_of 1 50 true rfl (by kernel_rfl) hgu) (eqlS_run 56 62 _ _ rfl h0 h1) hS (by decide) (by decide) (by show Value.bool _ = _; rw [hbe])
                · obtain rfl := Option.some.inj hi
                  have h0 : a'.tmps.getD 50 undef = _ := pre_of hpre 1 50 (by kernel_rfl) (by kernel_rfl)
                  have h1 : a'.tmps.getD 63 undef = _ := pre_of hpre 14 63 (by kernel_rfl) (by kernel_rfl)
                  exact lt_value _ rfl rfl (pick_run 50 true _ _ _ _ rfl h0 h1 rfl) hS (by decide) (by decide) rfl
                · obtain rfl := Option.some.inj hi
                  have h0 := pre_of hpre 15 64 (by kernel_rfl) (by kernel_rfl)
                  exact lt_last _ rfl rfl rfl (been_of hfw 0 (by kernel_rfl)) (by decide) h0
              · intro a' w5 f inv hS hall hd
                have hk16 := hd 16 5 (by kernel_rfl)
                have ho : Only [] (wr.drewN nq) w5 := inv.grow
                have hdf : a'.defers = [] := inv.defers
                have hsz : a'.tmps.size = 105 := inv.size
                have e := frame7_12 hsz (fun t ht => inv.old t (dstsIn_spec (ts := [5, 49, 50, 51, 52, 53, 54, 55, 56, 57, 58, 59, 60, 61, 62, 63, 64]) (by kernel_rfl) t ht))
                clear inv hd hsz hall hS
                obtain ⟨tmps, defers⟩ := a'
                obtain rfl : defers = [] := hdf
                replace e : tmps = _ := e
                replace hk16 : tmps.getD 5 undef = (.bool false) := hk16
                generalize tmps.getD 5 undef = x5 at *
                generalize tmps.getD 49 undef = x49 at *
                generalize tmps.getD 50 undef = x50 at *
                generalize tmps.getD 51 undef = x51 at *
                generalize tmps.getD 52 undef = x52 at *
                generalize tmps.getD 53 undef = x53 at *
                generalize tmps.getD 54 undef = x54 at *
                generalize tmps.getD 55 undef = x55 at *
                generalize tmps.getD 56 undef = x56 at *
                generalize tmps.getD 57 undef = x57 at *
                generalize tmps.getD 58 undef = x58 at *
                generalize tmps.getD 59 undef = x59 at *
                generalize tmps.getD 60 undef = x60 at *
                generalize tmps.getD 61 undef = x61 at *
                generalize tmps.getD 62 undef = x62 at *
                generalize tmps.getD 63 undef = x63 at *
                generalize tmps.getD 64 undef = x64 at *
                simp only [Array.getD_eq_getD_getElem?, List.getElem?_toArray, List.getElem?_cons_succ, List.getElem?_cons_zero, Option.getD_some] at e
                subst e
                subst hk16
                have HB5 : Hid (Below w.heap.size w w5) := (HB.out.trans (below_drewN nq _ _)).trans (ho.below (by show _ ≤ wr.heap.size; exact HB.out.size) (by simp))
                clear ho HDA HDB HDS HDT
                go_wp2_with fail
                go_roundw
                case rel =>
                  first
                    | exact ⟨j + 1, by omega, by go_num, by rw [HSN.out], HB5.out, HSO2.out⟩
                    | ((repeat apply Exists.intro)
                       refine ⟨⟨j + 1, by omega, ?_, ?_, HB5.out, HSO2.out⟩, rfl⟩
                       · go_num
                       · rw [HSN.out])
                case measure => simp [intOf]; omega
          · have HSN : Hid (sameP (ps.take (j + 1)) (qs.take (j + 1)) = false) := by show _ = _; rw [HSS.out, hsm]; simp [eqP]
            rw [hsm]
            clear hsm HSS
            go_wp2_with fail
            go_quiet (fail)
            go_wp2_with fail
            go_quiet (fail)
            go_wp2_with fail
            go_roundw
            case rel =>
              first
                | exact ⟨j + 1, by omega, by go_num, by rw [HSN.out], HB.out.trans (below_drewN _ _ _), HSO2.out⟩
                | ((repeat apply Exists.intro)
                   refine ⟨⟨j + 1, by omega, ?_, ?_, HB.out.trans (below_drewN _ _ _), HSO2.out⟩, rfl⟩
                   · go_num
                   · rw [HSN.out])
            case measure => simp [intOf]; omega
        | false =>
          rcases Bool.eq_false_or_eq_true (sameP (ps.take j) (qs.take j)) with hsm | hsm
          · by_cases he : na = nb
            · have HSN : Hid (sameP (ps.take (j + 1)) (qs.take (j + 1)) = true) := by show _ = _; rw [HSS.out, hsm]; simp [eqP, he]
              have hbe : (na == nb) = true := by simp [he]
              rw [hsm]
              clear hsm HSS
              go_wp2_with fail
              go_quiet (fail)
              go_wp2_with fail
              go_quiet (fail)
              go_wp2_with fail
              go_roundw
              case rel =>
                first
                  | exact ⟨j + 1, by omega, by go_num, by rw [HSN.out], HB.out.trans (below_drewN _ _ _), HSO2.out⟩
                  | ((repeat apply Exists.intro)
                     refine ⟨⟨j + 1, by omega, ?_, ?_, HB.out.trans (below_drewN _ _ _), HSO2.out⟩, rfl⟩
                     · go_num
                     · rw [HSN.out])
              case measure => simp [intOf]; omega
            · have HSN : Hid (sameP (ps.take (j + 1)) (qs.take (j + 1)) = false) := by show _ = _; rw [HSS.out, hsm]; simp [eqP, he]
              have hbe : (na == nb) = false := by simp [he]
              rw [hsm]
              clear hsm HSS
              go_wp2_with fail
              go_quiet (fail)
              go_wp2_with fail
              go_quiet (fail)
              go_wp2_with fail
              go_roundw
              case rel =>
                first
                  | exact ⟨j + 1, by omega, by go_num, by rw [HSN.out], HB.out.trans (below_drewN _ _ _), HSO2.out⟩
                  | ((repeat apply Exists.intro)
                     refine ⟨⟨j + 1, by omega, ?_, ?_, HB.out.trans (below_drewN _ _ _), HSO2.out⟩, rfl⟩
                     · go_num
                     · rw [HSN.out])
              case measure => simp [intOf]; omega
          · have HSN : Hid (sameP (ps.take (j + 1)) (qs.take (j + 1)) = false) := by show _ = _; rw [HSS.out, hsm]; simp [eqP]
            rw [hsm]
            clear hsm HSS
            go_wp2_with fail
            go_quiet (fail)
            go_wp2_with fail
            go_quiet (fail)
            go_wp2_with fail
            go_roundw
            case rel =>
              first
                | exact ⟨j + 1, by omega, by go_num, by rw [HSN.out], HB.out.trans (below_drewN _ _ _), HSO2.out⟩
                | ((repeat apply Exists.intro)
                   refine ⟨⟨j + 1, by omega, ?_, ?_, HB.out.trans (below_drewN _ _ _), HSO2.out⟩, rfl⟩
                   · go_num
                   · rw [HSN.out])
            case measure => simp [intOf]; omega
      · have hne : (ia == ib) = false := by cases ia <;> cases ib <;> simp_all
        clear HSO1 HSS
        go_wp2_with fail
        go_quiet (fail)
        go_wp2_with fail
        go_ret
        exact ⟨rfl, HB.out.trans (below_drewN _ _ _)⟩
    · obtain rfl : j = n := by omega
      have j1 : ¬ (j : Int) < (j : Int) := by omega
      have HSRT : Hid (sorts ps qs) := ⟨by rw [HN.out.1, HN.out.2], fun k h h' => HSO.out k h h' (by rw [HN.out.1] at h; exact h)⟩
      have es : sameP (ps.take j) (qs.take j) = sameP ps qs := by rw [List.take_of_length_le (by rw [HN.out.1]; omega), List.take_of_length_le (by rw [HN.out.2]; omega)]
      rw [es]
      clear es HSO
      go_wp2_with fail
      refine (put_any ps a j c wr HN.out.1 hl (HP.out.moved HB.out)).mono ?_
      intro e w3 h3
      by_cases he : Cd.err ps = 0
      · obtain ⟨x, rfl, ho3, b3⟩ := h3.ok he
        have HX3 : Hid (w3.ownsRow wr.heap.size 5 1 x (Cd.enc ps).length (ints .u8 (Cd.enc ps))) := ho3
        have HB3 : Hid (Below w.heap.size w w3) := HB.out.trans (bel_le b3 HB.out.size)
        obtain ⟨qx, cx, rfl⟩ := own_slice ho3
        have HSX : Hid (∀ y ∈ Cd.enc ps, y < 256) := Cd.enc_lt (fun p hp => by
          obtain ⟨k, hk, rfl⟩ := List.getElem_of_mem hp
          obtain ⟨_, _, _, _, _, _, _, _, h6, _⟩ := HP.out k hk
          exact h6.1.small)
        have HSY : Hid (∀ y ∈ Cd.enc qs, y < 256) := Cd.enc_lt (fun p hp => by
          obtain ⟨k, hk, rfl⟩ := List.getElem_of_mem hp
          obtain ⟨_, _, _, _, _, _, _, _, h6, _⟩ := HQ.out k hk
          exact h6.1.small)
        have HEP : Hid (Cd.err ps = 0) := he
        clear h3 ho3 b3 HB he
        generalize hlx : (Cd.enc ps).length = lx at *
        go_wp2_with fail
        refine (put_any qs b j d w3 HN.out.2 hl (HQ.out.moved HB3.out)).mono ?_
        intro e w4 h4
        by_cases hf : Cd.err qs = 0
        · obtain ⟨y, rfl, ho4, b4⟩ := h4.ok hf
          have HB4 : Hid (Below w.heap.size w w4) := HB3.out.trans (bel_le b4 HB3.out.size)
          have hc1 : (convert 25 9 (.slice qx lx cx)).run Try.prog w4 = .ok (.string (strB (Cd.enc ps))) w4 := conv_src ((Src.own HSX.out HX3.out).below b4)
          have hc2 : (convert 25 9 y).run Try.prog w4 = .ok (.string (strB (Cd.enc qs))) w4 := conv_src (Src.own HSY.out ho4)
          obtain ⟨qy, cy, rfl⟩ := own_slice ho4
          have HFE : Hid (((strB (Cd.enc ps)).toList == (strB (Cd.enc qs)).toList) = sameP ps qs) := by
            show _ = _
            rw [strB_beqL HSX.out HSY.out, Bool.eq_iff_iff, decide_eq_true_eq]
            exact enc_same ps qs HSRT.out HEP.out hf
          clear h4 ho4 b4 HX3 HB3 hf hlx
          generalize strB (Cd.enc ps) = X at *
          generalize strB (Cd.enc qs) = Y at *
          generalize (Cd.enc qs).length = ly at *
          generalize sameP ps qs = sme at *
          go_wp2_with fail
          go_ret
          refine ⟨?_, HB4.out⟩
          show Ending.returned (.bool ((X.toList == Y.toList) == sme)) = _
          rw [HFE.out]
          simp
        · obtain ⟨rfl, b4⟩ := h4.bad hf
          have HB4 : Hid (Below w.heap.size w w4) := HB3.out.trans (bel_le b4 HB3.out.size)
          have hz : ¬ ((Cd.err qs : Nat) : Int) = 0 := by omega
          clear h4 b4 HX3 HB3 hf hlx
          generalize Cd.err qs = er at *
          generalize sameP ps qs = sme at *
          go_wp2_with fail
          go_ret
          exact ⟨rfl, HB4.out⟩
      · obtain ⟨rfl, b3⟩ := h3.bad he
        have HB3 : Hid (Below w.heap.size w w3) := HB.out.trans (bel_le b3 HB.out.size)
        have hz : ¬ ((Cd.err ps : Nat) : Int) = 0 := by omega
        clear h3 b3 he HB
        generalize Cd.err ps = er at *
        generalize sameP ps qs = sme at *
        go_wp2_with fail
        refine (put_any qs b j d w3 HN.out.2 hl (HQ.out.moved HB3.out)).mono ?_
        intro e w4 h4
        have HB4 : Hid (Below w.heap.size w w4) := HB3.out.trans (bel_le h4.1 HB3.out.size)
        have hv : ∃ v er2, e = .returned (.tuple #[v, er2]) := by
          obtain ⟨_, ⟨_, v, rfl, _⟩ | ⟨_, rfl⟩⟩ := h4
          · exact ⟨_, _, rfl⟩
          · exact ⟨_, _, rfl⟩
        obtain ⟨v, er2, rfl⟩ := hv
        clear h4 HB3
        go_wp2_with fail
        go_ret
        exact ⟨rfl, HB4.out⟩
theorem apart_any (a : Option Addr) (n c : Nat) (b : Option Addr) (m d : Nat) (w : World) (h1 : n ≤ 9223372036854775807 ∧ ∃ ps : List Pt, ps.length = n ∧ PartRow w a ps) (h2 : m ≤ 9223372036854775807 ∧ ∃ ps : List Pt, ps.length = m ∧ PartRow w b ps) :
    Calls Try.prog 7 #[.slice a n c, .slice b m d] w fun e w' => e = .returned (.bool true) ∧ Below w.heap.size w w' := by
  obtain ⟨gn, ps, hn, hp⟩ := h1
  obtain ⟨gm, qs, hm, hq⟩ := h2
  cases hs : sm ps with
  | false => exact apart_sa ps qs a b n m c d w hn hm gn gm hp hq hs
  | true =>
    cases ht : sm qs with
    | false => exact apart_sb ps qs a b n m c d w hn hm gn gm hp hq hs ht
    | true =>
      by_cases hl : n = m
      · subst hl
        exact apart_main ps qs a b n c d w hn hm gn hp hq hs ht
      · exact apart_ln ps qs a b n m c d w hn hm gn gm hp hq hs ht hl
end Go.Proofs.Ytcpojjhopbcjkaa.C8
