/- The walk of CodeOwn. -/
import Derived.Test.YtcpojjhopbcjkaaC8OwnB
import Derived.Deep.RegionWith
namespace Go.Proofs.Ytcpojjhopbcjkaa.C8
open Go.RowKit
set_option maxHeartbeats 1000000 in
theorem own_many (a : Option Addr) (n c : Nat) (w : World) (hn : 500 < n) (hm : n ≤ 9223372036854775807) :
    Calls Try.prog 6 #[.slice a n c] w fun e w' => e = .returned (.bool true) ∧ Below w.heap.size w w' := by
  have n1 : (500 : Int) < (n : Int) := by omega
  go_enter Try.func6, Try.ntmps6
  go_wp2_with (go_at_call 9; refine (anchor_any _).mono ?_; rintro e w0 ⟨rfl, b0⟩; have B0 : Hid (Below w.heap.size w w0) := b0; clear b0)
  go_ret
  exact ⟨rfl, B0.out⟩
set_option maxHeartbeats 8000000 in
theorem own_main (a : Option Addr) (c : Nat) (t : List Nat) (n : Nat) (w : World) (hl : t.length = n) (hn : n ≤ 500) (hs : Src w (.slice a n c) t) :
    Calls Try.prog 6 #[.slice a n c] w fun e w' => e = .returned (.bool true) ∧ Below w.heap.size w w' := by
  have n1 : (n : Int) ≤ 500 := by omega
  have HS : Hid (Src w (.slice a n c) t) := hs
  have HL : Hid (t.length = n) := hl
  have HSM : Hid (∀ x ∈ t, x < 256) := hs.small
  clear hs hl
  go_enter Try.func6, Try.ntmps6
  go_wp2_with (first | (go_at_call 9; refine (anchor_any _).mono ?_; rintro e w0 ⟨rfl, b0⟩; have B0 : Hid (Below w.heap.size w w0) := b0; clear b0) | with_reducible (refine stop_builtin .append ?_))
  refine Stop.go ?_
  have hs0 : Src (w0.alloc (.cells #[] 5)) (.slice a n c) t := (Old.of HS.out).keep (B0.out.alloc B0.out.size _) |>.1
  refine law_append_grow w0.heap.size (.slice (some ⟨w0.heap.size, 0, none⟩) 0 0) 0 [] _ t rfl rfl (own_built w0) hs0 (by rw [HL.out]; omega) (by simp) ?_
  intro x w1 h1 h2
  have HX1 : Hid (w1.ownsRow w0.heap.size 5 1 x n (ints .u8 t)) := by
    rw [Nat.zero_add, HL.out] at h1
    exact h1
  have B1 : Hid (Below w.heap.size w w1) := (B0.out.alloc B0.out.size _).trans (bel_le (h2.below (own_built w0) (by simp)) B0.out.size)
  have HZ : Hid (w.heap.size ≤ w0.heap.size) := B0.out.size
  clear h1 h2 hs0 B0
  obtain ⟨q1, c1, rfl⟩ := own_slice HX1.out
  go_wp2_with fail
  refine (put_two _ t w1 (Src.own HSM.out HX1.out) (by rw [HL.out]; omega)).mono ?_
  rintro e w2 ⟨b, rfl, hb2, b2⟩
  have HB2 : Hid (w2.ownsRow (w1.heap.size + 1) 5 1 b (two t).length (ints .u8 (two t))) := hb2
  have HX2 : Hid (OwnB w2 w0.heap.size n (.slice q1 n c1)) := ⟨t, HSM.out, own_below HX1.out b2⟩
  have B2 : Hid (Below w.heap.size w w2) := B1.out.trans (bel_le b2 B1.out.size)
  have HXL : Hid (∀ k, (Value.slice q1 n c1).ownBlock = some k → k < w1.heap.size) := fun k hk => (HX1.out.lt k hk).2
  clear hb2 b2
  obtain ⟨q2, c2, rfl⟩ := own_slice HB2.out
  obtain ⟨m, HT2⟩ : ∃ m, Hid ((two t).length = m) := ⟨_, rfl⟩
  have HM2 : Hid (m = 2 + n + (2 + n)) := by show _ = _; rw [← HT2.out, two_length, HL.out]
  have m1 : (m : Int) ≤ 1004 := by have := HM2.out; omega
  go_wp2_with fail
  refine (Read_row _ (two t) w2 (Src.own (two_lt HSM.out) HB2.out) (by rw [HT2.out, HM2.out]; omega) (by rw [HT2.out, HM2.out]; omega)).mono ?_
  rintro e w3 ⟨p, g, o, rfl, hr3, hg3, hp3, hgl3, b3⟩
  have HR3 : Hid (RdAt w3 p g o (two t) false) := hr3
  have HG3 : Hid (Row5 w3 g) := hg3
  have HX3 : Hid (OwnB w3 w0.heap.size n (.slice q1 n c1)) := HX2.out.kept (row := none) (grownBy_below b3) (fun _ _ h => by cases h)
  have HB3 : Hid (OwnB w3 (w1.heap.size + 1) (two t).length (.slice q2 (two t).length c2)) := ⟨two t, two_lt HSM.out, own_below HB2.out b3⟩
  have B3 : Hid (Below w.heap.size w w3) := B2.out.trans (bel_le b3 B2.out.size)
  have HXP : Hid (∀ k, (Value.slice q1 n c1).ownBlock = some k → k < w1.heap.size + 1 ∧ k < p ∧ k < g ∧ w.heap.size ≤ k) := fun k hk => by
    have k1 := HX2.out.lt k hk
    have k2 := HXL.out k hk
    have := HZ.out
    omega
  have HBP : Hid (∀ k, (Value.slice q2 (two t).length c2).ownBlock = some k → k < p ∧ k < g ∧ w.heap.size ≤ k) := fun k hk => by
    have k1 := HB2.out.lt k hk
    have := HZ.out
    have := B1.out.size
    omega
  have HP3 : Hid (w.heap.size ≤ p ∧ w.heap.size ≤ g) := ⟨Nat.le_trans B2.out.size hp3, Nat.le_trans B2.out.size hgl3⟩
  clear hr3 hg3 hp3 hgl3 b3 HX1 HX2 HB2 HXL B1 B2 HZ
  rw [HT2.out] at HB3 HBP ⊢
  go_wp2_with fail
  go_loopw [32] (fun i wr => ∃ j : Nat, j ≤ n ∧ i = .int .i64 j ∧ Hid (OwnB wr w0.heap.size n (.slice q1 n c1)) ∧ Hid (w3.grownBy wr (Value.slice q1 n c1).ownBlock)) (fun i _ => n - (intOf i).toNat)
  case atStart => exact ⟨0, by omega, rfl, HX3.out, grownBy_refl _ _⟩
  case round =>
    obtain ⟨j, hj, rfl, HO, HG⟩ := hrel
    by_cases hlt : j < n
    · obtain ⟨g1, c1', y, e1, hg1, hy, hc1, hf1⟩ := HO.out.at j hlt
      cases e1
      obtain ⟨z, hz, hx⟩ := flip8 hy
      have j1 : (j : Int) < (n : Int) := by omega
      have j0 : (0 : Int) ≤ (j : Int) := by omega
      have HO2 : Hid (OwnB (wr.setCell ⟨g1, j, none⟩ (.int .u8 (z : Nat))) w0.heap.size n (.slice (some ⟨g1, 0, none⟩) n c1)) := HO.out.set hz
      have HG2 : Hid (w3.grownBy (wr.setCell ⟨g1, j, none⟩ (.int .u8 (z : Nat))) (some g1)) := grownBy_set HG.out j _
      clear HO HG
      go_wp2_with fail
      go_roundw
      case rel =>
        first
          | exact ⟨j + 1, by omega, by go_num, HO2.out, HG2.out⟩
          | ((repeat apply Exists.intro)
             refine ⟨⟨j + 1, by omega, ?_, HO2.out, HG2.out⟩, rfl⟩
             go_num)
      case measure => simp [intOf]; omega
    · obtain rfl : j = n := by omega
      have j1 : ¬ (j : Int) < (j : Int) := by omega
      have HR4 : Hid (RdAt wr p g o (two t) false) := HR3.out.grown HG.out (fun e => by have := HXP.out p e; omega) (fun e => by have := HXP.out g e; omega)
      have HG4 : Hid (Row5 wr g) := HG3.out.grown HG.out (fun e => by have := HXP.out g e; omega)
      have HB4 : Hid (OwnB wr (w1.heap.size + 1) m (.slice q2 m c2)) := HB3.out.kept HG.out (fun k hk e => by have h1 := HXP.out k e; have h2 := (HB3.out.lt k hk).1; omega)
      have B4 : Hid (Below w.heap.size w wr) := B3.out.grown HG.out B3.out.size (fun k hk => (HXP.out k hk).2.2.2)
      clear HR3 HG3 HB3 B3 HO HG HX3
      go_wp2_with fail
      clear j1 hlt hj
      rename World => w4
      go_loopw [44] (fun i wr2 => ∃ k : Nat, k ≤ m ∧ i = .int .i64 k ∧ Hid (OwnB wr2 (w1.heap.size + 1) m (.slice q2 m c2)) ∧ Hid (w4.grownBy wr2 (Value.slice q2 m c2).ownBlock)) (fun i _ => m - (intOf i).toNat)
      case atStart => exact ⟨0, by omega, rfl, HB4.out, grownBy_refl _ _⟩
      case round =>
        obtain ⟨k, hk, rfl, HO, HG⟩ := hrel
        by_cases hlt : k < m
        · obtain ⟨g2, c2', y, e1, hg1, hy, hc1, hf1⟩ := HO.out.at k hlt
          cases e1
          obtain ⟨z, hz, hx⟩ := flip8 hy
          have j1 : (k : Int) < (m : Int) := by omega
          have j0 : (0 : Int) ≤ (k : Int) := by omega
          have HO2 : Hid (OwnB (wr.setCell ⟨g2, k, none⟩ (.int .u8 (z : Nat))) (w1.heap.size + 1) m (.slice (some ⟨g2, 0, none⟩) m c2)) := HO.out.set hz
          have HG2 : Hid (w4.grownBy (wr.setCell ⟨g2, k, none⟩ (.int .u8 (z : Nat))) (some g2)) := grownBy_set HG.out k _
          clear HO HG
          go_wp2_with fail
          go_roundw
          case rel =>
            first
              | exact ⟨k + 1, by omega, by go_num, HO2.out, HG2.out⟩
              | ((repeat apply Exists.intro)
                 refine ⟨⟨k + 1, by omega, ?_, HO2.out, HG2.out⟩, rfl⟩
                 go_num)
          case measure => simp [intOf]; omega
        · obtain rfl : k = m := by omega
          have j1 : ¬ (k : Int) < (k : Int) := by omega
          have HR5 : Hid (RdAt wr p g o (two t) false) := HR4.out.grown HG.out (fun e => by have := HBP.out p e; omega) (fun e => by have := HBP.out g e; omega)
          have HG5 : Hid (Row5 wr g) := HG4.out.grown HG.out (fun e => by have := HBP.out g e; omega)
          have B5 : Hid (Below w.heap.size w wr) := B4.out.grown HG.out B4.out.size (fun i hi => (HBP.out i hi).2.2)
          clear HR4 HG4 HB4 B4 HO HG
          go_wp2_with fail
          refine (Text_src _ p g o (two t) false 0 500 j HR5.out (by rw [HT2.out, HM2.out]; omega) (by rw [two, HL.out, List.append_assoc]; exact val2 _ (by omega)) (by omega) (by omega)).mono ?_
          rintro e w6 ⟨v, rfl, ht6, hs6, hr6, ho6⟩
          have HR6 : Hid (RdAt w6 p g (o + 2 + j) (Cd.be 2 j ++ t) false) := by
            have h := hr6
            have e2 := two_drop t
            rw [HL.out] at e2
            rw [e2, ← Nat.add_assoc] at h
            exact h
          have HS6 : Hid (Src w6 v t) := by
            have h := hs6
            have e2 := two_take t
            rw [HL.out] at e2
            rw [e2] at h
            exact h
          have HG6 : Hid (Row5 w6 g) := HG5.out.grown (row := some p) ⟨ho6.os, ho6.tape, ho6.output, ho6.size, fun i hi hne => ho6.block i hi (by simpa using fun e => hne (by rw [e]))⟩ (fun e => HR5.out.2.2.1 (Option.some.inj e))
          have B6 : Hid (Below w.heap.size w w6) := B5.out.trans (ho6.below B5.out.size (by simpa using HP3.out.1))
          clear hs6 hr6 ho6 HR5 HG5 B5
          have hv : ∃ q c, v = .slice q j c ∧ (0 < j → q = some ⟨g, o + 2, none⟩) := by
            rcases ht6 with ⟨rfl, ad, c, rfl⟩ | rfl
            · exact ⟨_, _, rfl, fun h => absurd h (by omega)⟩
            · exact ⟨_, _, rfl, fun _ => rfl⟩
          obtain ⟨q6, c6, rfl, hq6⟩ := hv
          have HQ : Hid (0 < j → q6 = some ⟨g, o + 2, none⟩) := hq6
          have HT6 : Hid (0 < j → Turned w6 w6 g (o + 2) j) := fun h0 => by
            refine Turned.start HG6.out HSM.out HL.out ?_
            have hs := HS6.out
            rw [hq6 h0] at hs
            obtain ⟨_, ⟨e, _⟩ | ⟨_, _, _, e⟩ | ⟨b', o', c', e, _, hr⟩⟩ := hs
            · cases e
            · have := HL.out; rw [e] at this; simp at this; omega
            · cases e; exact hr
          clear ht6 hq6
          go_wp2_with fail
          clear j1 hlt hk
          go_loopw [58] (fun i wr3 => ∃ k3 : Nat, k3 ≤ j ∧ i = .int .i64 k3 ∧ Hid (RdAt wr3 p g (o + 2 + j) (Cd.be 2 j ++ t) false) ∧ Hid (Below w.heap.size w wr3) ∧ Hid (0 < j → Turned w6 wr3 g (o + 2) j)) (fun i _ => j - (intOf i).toNat)
          case atStart => exact ⟨0, by omega, rfl, HR6.out, B6.out, HT6.out⟩
          case round =>
            obtain ⟨k3, hk3, rfl, HR7, B7, HT7⟩ := hrel
            by_cases hlt : k3 < j
            · obtain ⟨y, hy, hc1, hf1⟩ := (HT7.out (by omega)).at k3 hlt
              obtain ⟨z, hz, hx⟩ := flip8 hy
              obtain rfl := HQ.out (by omega)
              have j1 : (k3 : Int) < (j : Int) := by omega
              have j0 : (0 : Int) ≤ (k3 : Int) := by omega
              have HT8 : Hid (0 < j → Turned w6 (wr.setCell ⟨g, o + 2 + k3, none⟩ (.int .u8 (z : Nat))) g (o + 2) j) := fun h0 => (HT7.out h0).set k3 z hlt hz
              have HR8 : Hid (RdAt (wr.setCell ⟨g, o + 2 + k3, none⟩ (.int .u8 (z : Nat))) p g (o + 2 + j) (Cd.be 2 j ++ t) false) := HR6.out.turned (HT8.out (by omega))
              have B8 : Hid (Below w.heap.size w (wr.setCell ⟨g, o + 2 + k3, none⟩ (.int .u8 (z : Nat)))) := B7.out.setCell HP3.out.2 _
              clear HT7 HR7 B7
              go_wp2_with fail
              go_roundw
              case rel =>
                first
                  | exact ⟨k3 + 1, by omega, by go_num, HR8.out, B8.out, HT8.out⟩
                  | ((repeat apply Exists.intro)
                     refine ⟨⟨k3 + 1, by omega, ?_, HR8.out, B8.out, HT8.out⟩, rfl⟩
                     go_num)
              case measure => simp [intOf]; omega
            · obtain rfl : k3 = j := by omega
              have j1 : ¬ (k3 : Int) < (k3 : Int) := by omega
              have HA7 : Hid (Old w.heap.size wr (.slice a k3 c) t) := (Old.of HS.out).keep B7.out
              have hc1 : (convert 25 9 (.slice a k3 c)).run Try.prog wr.drew = .ok (.string (strB t)) wr.drew := conv_src (HA7.out.1.below (below_drewN 1 _ _))
              have HC : ∀ W, W = wr.drew → Calls Try.prog 15 #[.pointer (some ⟨p, 0, none⟩), .int .i64 0, .int .i64 500] W fun e w' => ∃ v q cc, e = .returned v ∧ v = .slice q k3 cc ∧ (convert 25 9 v).run Try.prog w' = .ok (.string (strB t)) w' ∧ (convert 25 9 (.slice a k3 c)).run Try.prog w' = .ok (.string (strB t)) w' ∧ Hid (RdAt w' p g (o + 2 + k3 + (2 + k3)) [] false) ∧ Hid (Below w.heap.size w w') := by
                rintro W rfl
                have hr7 : RdAt wr.drew p g (o + 2 + k3) (Cd.be 2 k3 ++ t) false := HR7.out.below (below_drewN 1 _ _)
                refine (Text_src _ p g (o + 2 + k3) (Cd.be 2 k3 ++ t) false 0 500 k3 hr7 (by rw [List.length_append, Cd.be_length, HL.out]; omega) (val2 _ (by omega)) (by omega) (by omega)).mono ?_
                rintro e w8 ⟨v8, rfl, ht8, hs8, hr8, ho8⟩
                have e1 : ((Cd.be 2 k3 ++ t).drop 2).take k3 = t := by rw [drop2, ← HL.out]; exact List.take_of_length_le (Nat.le_refl _)
                have e2 : (Cd.be 2 k3 ++ t).drop (2 + k3) = [] := List.drop_eq_nil_of_le (by rw [List.length_append, Cd.be_length, HL.out]; omega)
                rw [e1] at hs8
                rw [e2] at hr8
                have b8 : Below w.heap.size w w8 := (B7.out.trans (below_drewN 1 _ _)).trans (ho8.below B7.out.size (by simpa using HP3.out.1))
                obtain ⟨q8, c8, e8, -⟩ := hs8.slice
                rw [HL.out] at e8
                exact ⟨v8, q8, c8, rfl, e8, conv_src hs8, conv_src ((Old.of HS.out).keep b8).1, hr8, b8⟩
              have hbe : ((strB t).toList == (strB t).toList) = true := beq_self_eq_true _
              clear HR7 B7 HT7 HA7 HR6 HT6 HG6 B6 HS6
              generalize strB t = st at *
              go_wp2_with fail
              go_region_with ((first
                | (go_at_call 15; refine (HC _ rfl).mono ?_; rintro e w8 ⟨v8, q8, c8, rfl, rfl, hc8, hc9, HR8, B8⟩)
                | (go_at_call 17; refine (End_any _ p g _ _ false HR8.out).mono ?_; rintro e w9 ⟨rfl, rfl⟩)))
              all_goals
                go_wp2_with fail
                go_ret
                exact ⟨rfl, B8.out⟩
theorem own_any (a : Option Addr) (n c : Nat) (w : World) (h : RowIs w a n c) : Calls Try.prog 6 #[.slice a n c] w fun e w' => e = .returned (.bool true) ∧ Below w.heap.size w w' := by
  by_cases hn : 500 < n
  · exact own_many a n c w hn h.max
  · obtain ⟨l, hl, hs⟩ := Src.of h
    exact own_main a c l n w hl (by omega) hs
end Go.Proofs.Ytcpojjhopbcjkaa.C8
