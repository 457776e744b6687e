/- The walk of BucketOwn. -/
import Derived.Test.YtedbfhbmpeogdaaB13Anc
import Derived.Test.YtedbfhbmpeogdaaB13RP
import Derived.Test.YtedbfhbmpeogdaaB13St
import Derived.Test.YtedbfhbmpeogdaaC8Args
namespace Go.Proofs.Ytedbfhbmpeogdaa.C8
open Go.RowKit
theorem own_long (p : Option Addr) (n c : Nat) (w : World) (h : 500 < n) (hn : n ≤ 9223372036854775807) :
    Calls Try.prog 8 #[.slice p n c] w fun e w' => e = .returned (.bool true) ∧ Below w.heap.size w w' := by
  have n1 : (500 : Int) < (n : Int) := by omega
  go_enter Try.func8, Try.ntmps8
  go_wp2_with fail
  refine (anchor_any _).mono ?_
  rintro e w0 ⟨rfl, b0⟩
  have B0 : Hid (Below w.heap.size w w0) := b0
  clear b0
  go_wp2_with fail
  go_ret
  exact ⟨rfl, B0.out⟩
set_option maxHeartbeats 4000000 in
theorem own_main {l : List Nat} (p : Option Addr) (n c : Nat) (w : World) (hs : Src w (.slice p n c) l) (hl : l.length = n) (hn : n ≤ 500) :
    Calls Try.prog 8 #[.slice p n c] w fun e w' => e = .returned (.bool true) ∧ Below w.heap.size w w' := by
  have n1 : (n : Int) ≤ 500 := by omega
  have HS : Hid (Src w (.slice p n c) l) := hs
  have HSM : Hid (∀ x ∈ l, x < 256) := hs.small
  have HL : Hid (l.length = n) := hl
  have HSP : Hid (∀ x ∈ padL l, x < 256) := padL_lt (by omega) hs.small
  have HPL : Hid ((padL l).length = bsz n) := by rw [← hl]; exact padL_length (by omega)
  have HPD : Hid (∀ W a c, Src W (.slice a n c) l → Calls Try.prog 10 #[.slice a n c] W fun e w' => e = .returned (.tuple #[.slice (some ⟨W.heap.size, 0, none⟩) (bsz n) (bsz n), .int .i64 0]) ∧ w'.ownsRow W.heap.size 5 1 (.slice (some ⟨W.heap.size, 0, none⟩) (bsz n) (bsz n)) (bsz n) (ints .u8 (padL l)) ∧ Below W.heap.size W w') := fun W a c h => Pad_ok a n c W h hl (by omega)
  have HST : Hid (∀ W v, Src W v (padL l) → Calls Try.prog 11 #[v] W fun e w' => ∃ q c1, e = .returned (.tuple #[.slice q n c1, .int .i64 0]) ∧ OwnB w' W.heap.size n (.slice q n c1) ∧ Below W.heap.size W w') := fun W v h =>
    (Strip_ok v W h (right_pad (by omega))).mono fun e w' ⟨u, he, ho, hb⟩ => by
      rw [cnt_pad, txt_pad, hl] at ho
      obtain ⟨q, c1, rfl⟩ := own_slice ho
      exact ⟨q, c1, he, ⟨l, hs.small, ho⟩, hb⟩
  have hbz := bsz_le (show n ≤ 2046 by omega)
  have hb1 : ((strB l).toList == (strB l).toList) = true := beq_self_eq_true _
  have hb2 : ((strB (padL l)).toList == (strB (padL l)).toList) = true := beq_self_eq_true _
  generalize bsz n = s at *
  have s1 : (s : Int) ≤ 2048 := by omega
  have HSB : Hid (s ≤ 2048 ∧ n ≤ 500) := ⟨hbz.2.1, hn⟩
  clear hs hl hn hbz
  go_enter Try.func8, Try.ntmps8
  go_wp2_with fail
  refine (anchor_any _).mono ?_
  rintro e w0 ⟨rfl, b0⟩
  have B0 : Hid (Below w.heap.size w w0) := b0
  clear b0
  go_wp2_with (first | with_reducible (refine stop_make 22 ?_))
  refine Stop.go ?_
  refine law_make w0.heap.size 0 600 rfl rfl (by decide) (by decide) (Nat.le_refl _) ?_
  intro w1 ho1 hg1
  have HO1 : Hid (w1.ownsRow w0.heap.size 5 1 (.slice (some ⟨w0.heap.size, 0, none⟩) 0 600) 0 (ints .u8 [])) := ho1
  have HG1 : Hid (Below w0.heap.size w0 w1) := (Below.refl w0.heap.size w0).grown hg1 (Nat.le_refl _) (fun k hk => by cases hk)
  clear ho1 hg1
  go_wp2_with (first | with_reducible (refine stop_builtin .append ?_))
  refine Stop.go ?_
  have hs1 : Src w1 (.slice p n c) l := HS.out.below (B0.out.trans (HG1.out.mono B0.out.size))
  refine law_append_grow w0.heap.size _ 0 [] _ l rfl rfl HO1.out hs1 (by rw [HL.out]; have := HSB.out; omega) HG1.out.size ?_
  intro x w2 h2 g2
  have HX2 : Hid (w2.ownsRow w0.heap.size 5 1 x n (ints .u8 l)) := by
    rw [Nat.zero_add, HL.out] at h2
    exact h2
  have B2 : Hid (Below w.heap.size w w2) := (B0.out.trans (HG1.out.mono B0.out.size)).trans ((g2.below HO1.out HG1.out.size).mono B0.out.size)
  have HZ2 : Hid (w.heap.size ≤ w0.heap.size ∧ w0.heap.size ≤ w2.heap.size) := ⟨B0.out.size, Nat.le_trans HG1.out.size g2.size⟩
  clear h2 g2 hs1 HO1 HG1 B0
  obtain ⟨qx, cx, rfl⟩ := own_slice HX2.out
  go_wp2_with fail
  refine (HPD.out _ _ _ (Src.own HSM.out HX2.out)).mono ?_
  rintro e w3 ⟨rfl, ho3, b3⟩
  have HP3 : Hid (w3.ownsRow w2.heap.size 5 1 (.slice (some ⟨w2.heap.size, 0, none⟩) s s) s (ints .u8 (padL l))) := ho3
  have HX3 : Hid (Src w3 (.slice qx n cx) l) := (Src.own HSM.out HX2.out).below b3
  have HXO : Hid (∀ b, (Value.slice qx n cx).ownBlock = some b → b < w2.heap.size) := fun b hb => (HX2.out.lt b hb).2
  have B3 : Hid (Below w.heap.size w w3) := B2.out.trans (b3.mono B2.out.size)
  have HZ3 : Hid (w2.heap.size ≤ w3.heap.size) := b3.size
  clear ho3 b3 HX2
  go_wp2_with (first | with_reducible (refine stop_builtin .append ?_))
  refine Stop.go ?_
  have hbA : Below w3.heap.size w3 (w3.alloc (.cells #[] 5)) := (Below.refl _ _).alloc (Nat.le_refl _) _
  refine law_append_grow w3.heap.size _ 0 [] _ (padL l) rfl rfl (own_built w3) ((Src.own HSP.out HP3.out).below hbA) (by rw [HPL.out]; have := HSB.out; omega) (by simp) ?_
  intro y w4 h4 g4
  have hb4 : Below w3.heap.size w3 w4 := hbA.trans (g4.below (own_built w3) (by simp))
  have HQ4 : Hid (w4.ownsRow w3.heap.size 5 1 y s (ints .u8 (padL l))) := by
    rw [Nat.zero_add, HPL.out] at h4
    exact h4
  have HP4 : Hid (Src w4 (.slice (some ⟨w2.heap.size, 0, none⟩) s s) (padL l)) := (Src.own HSP.out HP3.out).below hb4
  have HX4 : Hid (Src w4 (.slice qx n cx) l) := HX3.out.below hb4
  have B4 : Hid (Below w.heap.size w w4) := B3.out.trans (hb4.mono B3.out.size)
  have HZ4 : Hid (w2.heap.size < w3.heap.size) := own_lt HP3.out
  have HZA : Hid (w3.heap.size ≤ w4.heap.size) := hb4.size
  clear h4 g4 hbA hb4 HX3 HP3
  obtain ⟨qy, cy, rfl⟩ := own_slice HQ4.out
  go_wp2_with fail
  refine (HST.out _ _ HP4.out).mono ?_
  rintro e w5 ⟨qt, ct, rfl, ht5, b5⟩
  have HT5 : Hid (OwnB w5 w4.heap.size n (.slice qt n ct)) := ht5
  have HP5 : Hid (Src w5 (.slice (some ⟨w2.heap.size, 0, none⟩) s s) (padL l)) := HP4.out.below b5
  have HX5 : Hid (Src w5 (.slice qx n cx) l) := HX4.out.below b5
  have HY5 : Hid (Src w5 (.slice qy s cy) (padL l)) := (Src.own HSP.out HQ4.out).below b5
  have HYO : Hid (∀ b, (Value.slice qy s cy).ownBlock = some b → b < w4.heap.size) := fun b hb => (HQ4.out.lt b hb).2
  have B5 : Hid (Below w.heap.size w w5) := B4.out.trans (b5.mono B4.out.size)
  have HZ5 : Hid (w.heap.size ≤ w4.heap.size ∧ w3.heap.size ≤ w4.heap.size) := ⟨B4.out.size, HZA.out⟩
  clear ht5 b5 HP4 HX4 HQ4 B4
  go_wp2_with fail
  go_loopw [33] (fun i wr => ∃ j : Nat, j ≤ n ∧ i = .int .i64 j ∧ Hid (OwnB wr w4.heap.size n (.slice qt n ct)) ∧ Hid (w5.grownBy wr (Value.slice qt n ct).ownBlock)) (fun i _ => n - (intOf i).toNat)
  case atStart => exact ⟨0, by omega, rfl, HT5.out, grownBy_refl _ _⟩
  case round =>
    obtain ⟨j, hj, rfl, HO, HG⟩ := hrel
    by_cases hlt : j < n
    · obtain ⟨g1, c1', y, e1, hg1, hy, hc1, hf1⟩ := HO.out.at j hlt
      cases e1
      obtain ⟨z, hz, hx⟩ := flip8 hy
      have j1 : (j : Int) < (n : Int) := by omega
      have j0 : (0 : Int) ≤ (j : Int) := by omega
      have HO2 : Hid (OwnB (wr.setCell ⟨g1, j, none⟩ (.int .u8 (z : Nat))) w4.heap.size n (.slice (some ⟨g1, 0, none⟩) n ct)) := HO.out.set hz
      have HG2 : Hid (w5.grownBy (wr.setCell ⟨g1, j, none⟩ (.int .u8 (z : Nat))) (some g1)) := grownBy_set HG.out j _
      clear HO HG
      go_wp2_with fail
      go_roundw
      case rel =>
        first
          | exact ⟨j + 1, by omega, by go_num, HO2.out, HG2.out⟩
          | ((repeat apply Exists.intro)
             refine ⟨⟨j + 1, by omega, ?_, HO2.out, HG2.out⟩, rfl⟩
             go_num)
      case measure => simp [intOf]; omega
    · obtain rfl : j = n := by omega
      have j1 : ¬ (j : Int) < (j : Int) := by omega
      have hon : Only (Value.slice qt j ct).ownBlock.toList w5 wr := Only.of_grown HG.out (fun x hx => by rw [hx]; simp)
      have hoff : ∀ (v : Value), (∀ b, v.ownBlock = some b → b < w4.heap.size) → Off v (Value.slice qt j ct).ownBlock.toList := fun v hv b hb hm => by
        simp only [Option.mem_toList] at hm
        have h1 := HT5.out.lt b hm
        have h2 := hv b hb
        omega
      have hz := HZ5.out
      have hz4 := HZ4.out
      have k1 : (convert 22 9 (.slice qx j cx)).run Try.prog wr = .ok (.string (strB l)) wr := conv_src (HX5.out.only hon (hoff _ (fun b hb => by have := HXO.out b hb; omega)))
      have k2 : (convert 22 9 (.slice p j c)).run Try.prog wr = .ok (.string (strB l)) wr := conv_src (((Old.of HS.out).keep (B5.out.trans (hon.below B5.out.size (fun x hx => by simp only [Option.mem_toList] at hx; have := (HT5.out.lt x hx).1; omega)))).1)
      have k3 : (convert 22 9 (.slice (some ⟨w2.heap.size, 0, none⟩) s s)).run Try.prog wr = .ok (.string (strB (padL l))) wr := conv_src (HP5.out.only hon (hoff _ (fun b hb => by cases hb; show w2.heap.size < _; omega)))
      have k4 : (convert 22 9 (.slice qy s cy)).run Try.prog wr = .ok (.string (strB (padL l))) wr := conv_src (HY5.out.only hon (hoff _ (fun b hb => HYO.out b hb)))
      have B6 : Hid (Below w.heap.size w wr) := B5.out.trans (hon.below B5.out.size (fun x hx => by simp only [Option.mem_toList] at hx; have := (HT5.out.lt x hx).1; omega))
      clear hon hoff hz hz4 HO HG
      generalize strB (padL l) = st at *
      generalize strB l = su at *
      go_wp2_with fail
      go_ret
      exact ⟨rfl, B6.out⟩
theorem own_any (p : Option Addr) (n c : Nat) (w : World) (h1 : RowIs w p n c) : Calls Try.prog 8 #[.slice p n c] w fun e w' => e = .returned (.bool true) ∧ Below w.heap.size w w' := by
  by_cases h : 500 < n
  · exact own_long p n c w h h1.max
  · obtain ⟨l, hl, hs⟩ := Src.of h1
    exact own_main p n c w hs hl (by omega)
end Go.Proofs.Ytedbfhbmpeogdaa.C8
