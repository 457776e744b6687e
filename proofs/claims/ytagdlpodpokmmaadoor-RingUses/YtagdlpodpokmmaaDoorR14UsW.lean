/- RingUses: the walk. -/
import Derived.Test.YtagdlpodpokmmaaDoorR14WrW
namespace Go.Proofs.YtagdlpodpokmmaaDoor.S7
open Go.RowKit
theorem use_apart (m n : Nat) : memB ++ six m ≠ wriB ++ six n := fun e => by
  obtain ⟨h, _⟩ := List.append_inj e rfl
  exact absurd h (by decide)
/-- The keys of three calls, by signs. -/
theorem uses_keys (a b : List Nat) (m n : Nat) (hm : m ≤ 16) (hn : n ≤ 16) : (mk [] a memB m = mk (adk [] a memB m) b memB n ↔ a = b ∧ m = n) ∧ mk [] a memB m ≠ mk (adk (adk [] a memB m) b memB n) b wriB n ∧ mk (adk [] a memB m) b memB n ≠ mk (adk (adk [] a memB m) b memB n) b wriB n := by
  have l1 : (adk [] a memB m).length ≤ 1 := adk_length [] a memB m
  have l2 : (adk (adk [] a memB m) b memB n).length ≤ 2 := Nat.le_trans (adk_length _ b memB n) (by omega)
  obtain ⟨N, hN⟩ := Su.add_eq (adk [] a memB m) 77 b (memB ++ six n)
  refine ⟨?_, ?_, ?_⟩
  · rw [mk_later (by decide) (by omega) ⟨[], by rw [List.append_nil]⟩, mem_six (by omega) (by omega)]
  · intro e
    have := (mk_later (M := adk (adk [] a memB m) b memB n) (by decide) (by omega) ⟨N, hN⟩).1 e
    exact use_apart m n this.2
  · intro e
    have := (mk_later (by omega) (by omega) ⟨[], by rw [List.append_nil]⟩).1 e
    exact use_apart n n this.2
set_option maxHeartbeats 8000000 in
set_option maxRecDepth 10000 in
theorem uses_any (w : World) (a0 a1 : Option Addr) (l0 c0 l1 c1 : Nat) (m n : Int) (s s' : List Nat) (h0 : Src w (.slice a0 l0 c0) s) (h1 : Src w (.slice a1 l1 c1) s') :
    Calls Tryd.prog 7 #[.slice a0 l0 c0, .slice a1 l1 c1, .int .i64 m, .int .i64 n] w fun e w' => e = .returned (.bool true) ∧ Below w.heap.size w w' := by
  obtain ⟨B, hBe⟩ : ∃ B, B = w.heap.size := ⟨_, rfl⟩
  have HBE : Hid (B = w.heap.size) := hBe
  rw [← hBe]
  have H0 : Hid (∀ w', Below B w w' → By B w' (.slice a0 l0 c0) s ∧ By B w' (.slice a1 l1 c1) s') := fun w' hb => by
    rw [HBE.out] at hb
    exact ⟨(By.old h0 (by rw [HBE.out]; exact Nat.le_refl _)).below hb, (By.old h1 (by rw [HBE.out]; exact Nat.le_refl _)).below hb⟩
  clear hBe h0 h1
  go_enter Tryd.func7, Tryd.ntmps7
  go_wp2_with fail
  refine (anchor_any w).mono ?_
  rintro e w1 ⟨rfl, hb1⟩
  rw [← HBE.out] at hb1
  have HB1 : Hid (Below B w w1 ∧ B ≤ w1.heap.size) := ⟨hb1, by have := hb1.size; rw [HBE.out]; exact this⟩
  clear hb1
  by_cases q0 : (100 : Int) < (l0 : Int)
  · go_wp2_with fail
    go_ret
    exact ⟨rfl, HB1.out.1⟩
  by_cases q1 : (100 : Int) < (l1 : Int)
  · go_wp2_with fail
    go_ret
    exact ⟨rfl, HB1.out.1⟩
  go_wp2_with fail
  refine (Signs_sw HB1.out.2).mono ?_
  rintro e w2 ⟨p, q, mm, x, rfl, h1, h2⟩
  have G2 : Hid (Sw B w2 p q mm x [] ∧ Below B w w2 ∧ B ≤ w2.heap.size) := ⟨h1, HB1.out.1.trans (h2.mono HB1.out.2), Nat.le_trans HB1.out.2 h2.size⟩
  clear h1 h2 HB1 q0 q1
  by_cases m1 : 1 ≤ m
  · by_cases m2 : m ≤ 16
    · obtain ⟨m', rfl⟩ : ∃ m' : Nat, m = (m' : Int) := ⟨m.toNat, by omega⟩
      have HM : Hid (1 ≤ m' ∧ m' ≤ 16) := by show _ ∧ _; omega
      go_wp2_with fail
      refine (Member_s G2.out.1 (by decide) G2.out.2.2 (H0.out w2 G2.out.2.1).1 m' HM.out).mono ?_
      rintro e w3 ⟨xv, rfl, x1, x2, x3⟩
      obtain ⟨xq, xc, rfl⟩ := own_slice x1
      have G3 : Hid (Sw B w3 p q mm x (adk [] s memB m') ∧ Below B w w3 ∧ B ≤ w3.heap.size) := ⟨x2, G2.out.2.1.trans x3.kx.low, Nat.le_trans G2.out.2.2 x3.size⟩
      have HX3 : Hid (By B w3 (.slice xq 32 xc) (mk [] s memB m')) := By.own (mk_small _ _ _ _) x1
      clear x1 x2 x3 G2
      by_cases n1 : 1 ≤ n
      · by_cases n2 : n ≤ 16
        · obtain ⟨n', rfl⟩ : ∃ n' : Nat, n = (n' : Int) := ⟨n.toNat, by omega⟩
          have HN : Hid (1 ≤ n' ∧ n' ≤ 16) := by show _ ∧ _; omega
          go_wp2_with fail
          refine (Member_s G3.out.1 (by exact Nat.lt_of_le_of_lt (adk_length _ _ _ _) (by decide)) G3.out.2.2 (H0.out w3 G3.out.2.1).2 n' HN.out).mono ?_
          rintro e w5 ⟨yv, rfl, y1, y2, y3⟩
          obtain ⟨yq, yc, rfl⟩ := own_slice y1
          have l1 : (adk [] s memB m').length ≤ 1 := adk_length [] s memB m'
          have G5 : Hid (Sw B w5 p q mm x (adk (adk [] s memB m') s' memB n') ∧ Below B w w5 ∧ B ≤ w5.heap.size) := ⟨y2, G3.out.2.1.trans y3.kx.low, Nat.le_trans G3.out.2.2 y3.size⟩
          have HX5 : Hid (By B w5 (.slice xq 32 xc) (mk [] s memB m') ∧ By B w5 (.slice yq 32 yc) (mk (adk [] s memB m') s' memB n')) := ⟨HX3.out.kx y3.kx tu5, By.own (mk_small _ _ _ _) y1⟩
          have HL : Hid ((adk (adk [] s memB m') s' memB n').length < 1000000) := by show _ < _; have := adk_length (adk [] s memB m') s' memB n'; omega
          clear y1 y2 y3 G3 HX3 l1
          go_wp2_with fail
          refine (Writer_s G5.out.1 HL.out G5.out.2.2 (H0.out w5 G5.out.2.1).2 n' HN.out).mono ?_
          rintro e w6 ⟨zv, rfl, z1, z2, z3⟩
          obtain ⟨zq, zc, rfl⟩ := own_slice z1
          have HB6 : Hid (Below B w w6) := G5.out.2.1.trans z3.kx.low
          have hc1 := conv_src (HX5.out.1.kx z3.kx tu5).src
          have hc2 := conv_src (HX5.out.2.kx z3.kx tu5).src
          have hc3 := conv_src (Src.own (mk_small _ _ _ _) z1)
          have hc4 := conv_src (H0.out w6 HB6.out).1.src
          have hc5 := conv_src (H0.out w6 HB6.out).2.src
          obtain ⟨u1, u2, u3⟩ := uses_keys s s' m' n' HM.out.2 HN.out.2
          have HQ : Hid (((strB s).toList == (strB s').toList) = decide (s = s')) := strB_beqL (H0.out w6 HB6.out).1.src.small (H0.out w6 HB6.out).2.src.small
          have HXY : Hid (((strB (mk [] s memB m')).toList == (strB (mk (adk [] s memB m') s' memB n')).toList) = decide (s = s' ∧ m' = n')) := by
            show _ = _
            rw [strB_beqL (mk_small _ _ _ _) (mk_small _ _ _ _)]
            exact decide_eq_decide.2 u1
          have hxz : ((strB (mk [] s memB m')).toList == (strB (mk (adk (adk [] s memB m') s' memB n') s' wriB n')).toList) = false := by rw [strB_beqL (mk_small _ _ _ _) (mk_small _ _ _ _), decide_eq_false u2]
          have hyz : ((strB (mk (adk [] s memB m') s' memB n')).toList == (strB (mk (adk (adk [] s memB m') s' memB n') s' wriB n')).toList) = false := by rw [strB_beqL (mk_small _ _ _ _) (mk_small _ _ _ _), decide_eq_false u3]
          clear z1 z2 z3 G5 HX5 HL u1 u2 u3 H0 HM HN
          generalize strB (mk (adk (adk [] s memB m') s' memB n') s' wriB n') = zz at *
          generalize strB (mk (adk [] s memB m') s' memB n') = zy at *
          generalize strB (mk [] s memB m') = zx at *
          by_cases hs : s = s'
          · have hq : ((strB s).toList == (strB s').toList) = true := by rw [HQ.out, decide_eq_true hs]
            by_cases hm : m' = n'
            · have e1 : ((m' : Int) == (n' : Int)) = true := by rw [hm]; exact beq_self_eq_true _
              have hxy : (zx.toList == zy.toList) = true := by rw [HXY.out, decide_eq_true ⟨hs, hm⟩]
              clear HQ HXY hs hm
              generalize strB s = z1 at *
              generalize strB s' = z2 at *
              go_wp2_with fail
              go_ret
              exact ⟨rfl, HB6.out⟩
            · have e1 : ((m' : Int) == (n' : Int)) = false := by rw [beq_eq_false_iff_ne]; omega
              have hxy : (zx.toList == zy.toList) = false := by rw [HXY.out, decide_eq_false (fun e => hm e.2)]
              clear HQ HXY hs
              generalize strB s = z1 at *
              generalize strB s' = z2 at *
              go_wp2_with fail
              go_ret
              exact ⟨rfl, HB6.out⟩
          · have hq : ((strB s).toList == (strB s').toList) = false := by rw [HQ.out, decide_eq_false hs]
            have hxy : (zx.toList == zy.toList) = false := by rw [HXY.out, decide_eq_false (fun e => hs e.1)]
            clear HQ HXY
            generalize strB s = z1 at *
            generalize strB s' = z2 at *
            go_wp2_with fail
            go_ret
            exact ⟨rfl, HB6.out⟩
        · go_wp2_with fail
          refine (Member_no w3 _ _ n (by omega)).mono ?_
          rintro e w5 ⟨rfl, hw⟩
          obtain rfl : w3 = w5 := hw.symm
          clear hw
          go_wp2_with fail
          refine (Writer_no w3 _ _ n (by omega)).mono ?_
          rintro e w5 ⟨rfl, hw⟩
          obtain rfl : w3 = w5 := hw.symm
          clear hw
          go_wp2_with fail
          go_ret
          exact ⟨rfl, G3.out.2.1⟩
      · go_wp2_with fail
        refine (Member_no w3 _ _ n (by omega)).mono ?_
        rintro e w5 ⟨rfl, hw⟩
        obtain rfl : w3 = w5 := hw.symm
        clear hw
        go_wp2_with fail
        refine (Writer_no w3 _ _ n (by omega)).mono ?_
        rintro e w5 ⟨rfl, hw⟩
        obtain rfl : w3 = w5 := hw.symm
        clear hw
        go_wp2_with fail
        go_ret
        exact ⟨rfl, G3.out.2.1⟩
    · go_wp2_with fail
      refine (Member_no w2 _ _ m (by omega)).mono ?_
      rintro e w3 ⟨rfl, hw⟩
      obtain rfl : w2 = w3 := hw.symm
      clear hw
      by_cases n1 : 1 ≤ n
      · by_cases n2 : n ≤ 16
        · obtain ⟨n', rfl⟩ : ∃ n' : Nat, n = (n' : Int) := ⟨n.toNat, by omega⟩
          have HN : Hid (1 ≤ n' ∧ n' ≤ 16) := by show _ ∧ _; omega
          go_wp2_with fail
          refine (Member_s G2.out.1 (by decide) G2.out.2.2 (H0.out w2 G2.out.2.1).2 n' HN.out).mono ?_
          rintro e w5 ⟨yv, rfl, y1, y2, y3⟩
          obtain ⟨yq, yc, rfl⟩ := own_slice y1
          have G5 : Hid (Sw B w5 p q mm x (adk [] s' memB n') ∧ Below B w w5 ∧ B ≤ w5.heap.size) := ⟨y2, G2.out.2.1.trans y3.kx.low, Nat.le_trans G2.out.2.2 y3.size⟩
          clear y1 y2 y3 G2
          go_wp2_with fail
          refine (Writer_s G5.out.1 (Nat.lt_of_le_of_lt (adk_length _ _ _ _) (by decide)) G5.out.2.2 (H0.out w5 G5.out.2.1).2 n' HN.out).mono ?_
          rintro e w6 ⟨zv, rfl, z1, z2, z3⟩
          obtain ⟨zq, zc, rfl⟩ := own_slice z1
          have HB6 : Hid (Below B w w6) := G5.out.2.1.trans z3.kx.low
          clear z1 z2 z3 G5 H0 HN
          go_wp2_with fail
          go_ret
          exact ⟨rfl, HB6.out⟩
        · go_wp2_with fail
          refine (Member_no w2 _ _ n (by omega)).mono ?_
          rintro e w5 ⟨rfl, hw⟩
          obtain rfl : w2 = w5 := hw.symm
          clear hw
          go_wp2_with fail
          refine (Writer_no w2 _ _ n (by omega)).mono ?_
          rintro e w5 ⟨rfl, hw⟩
          obtain rfl : w2 = w5 := hw.symm
          clear hw
          go_wp2_with fail
          go_ret
          exact ⟨rfl, G2.out.2.1⟩
      · go_wp2_with fail
        refine (Member_no w2 _ _ n (by omega)).mono ?_
        rintro e w5 ⟨rfl, hw⟩
        obtain rfl : w2 = w5 := hw.symm
        clear hw
        go_wp2_with fail
        refine (Writer_no w2 _ _ n (by omega)).mono ?_
        rintro e w5 ⟨rfl, hw⟩
        obtain rfl : w2 = w5 := hw.symm
        clear hw
        go_wp2_with fail
        go_ret
        exact ⟨rfl, G2.out.2.1⟩
  · go_wp2_with fail
    refine (Member_no w2 _ _ m (by omega)).mono ?_
    rintro e w3 ⟨rfl, hw⟩
    obtain rfl : w2 = w3 := hw.symm
    clear hw
    by_cases n1 : 1 ≤ n
    · by_cases n2 : n ≤ 16
      · obtain ⟨n', rfl⟩ : ∃ n' : Nat, n = (n' : Int) := ⟨n.toNat, by omega⟩
        have HN : Hid (1 ≤ n' ∧ n' ≤ 16) := by show _ ∧ _; omega
        go_wp2_with fail
        refine (Member_s G2.out.1 (by decide) G2.out.2.2 (H0.out w2 G2.out.2.1).2 n' HN.out).mono ?_
        rintro e w5 ⟨yv, rfl, y1, y2, y3⟩
        obtain ⟨yq, yc, rfl⟩ := own_slice y1
        have G5 : Hid (Sw B w5 p q mm x (adk [] s' memB n') ∧ Below B w w5 ∧ B ≤ w5.heap.size) := ⟨y2, G2.out.2.1.trans y3.kx.low, Nat.le_trans G2.out.2.2 y3.size⟩
        clear y1 y2 y3 G2
        go_wp2_with fail
        refine (Writer_s G5.out.1 (Nat.lt_of_le_of_lt (adk_length _ _ _ _) (by decide)) G5.out.2.2 (H0.out w5 G5.out.2.1).2 n' HN.out).mono ?_
        rintro e w6 ⟨zv, rfl, z1, z2, z3⟩
        obtain ⟨zq, zc, rfl⟩ := own_slice z1
        have HB6 : Hid (Below B w w6) := G5.out.2.1.trans z3.kx.low
        clear z1 z2 z3 G5 H0 HN
        go_wp2_with fail
        go_ret
        exact ⟨rfl, HB6.out⟩
      · go_wp2_with fail
        refine (Member_no w2 _ _ n (by omega)).mono ?_
        rintro e w5 ⟨rfl, hw⟩
        obtain rfl : w2 = w5 := hw.symm
        clear hw
        go_wp2_with fail
        refine (Writer_no w2 _ _ n (by omega)).mono ?_
        rintro e w5 ⟨rfl, hw⟩
        obtain rfl : w2 = w5 := hw.symm
        clear hw
        go_wp2_with fail
        go_ret
        exact ⟨rfl, G2.out.2.1⟩
    · go_wp2_with fail
      refine (Member_no w2 _ _ n (by omega)).mono ?_
      rintro e w5 ⟨rfl, hw⟩
      obtain rfl : w2 = w5 := hw.symm
      clear hw
      go_wp2_with fail
      refine (Writer_no w2 _ _ n (by omega)).mono ?_
      rintro e w5 ⟨rfl, hw⟩
      obtain rfl : w2 = w5 := hw.symm
      clear hw
      go_wp2_with fail
      go_ret
      exact ⟨rfl, G2.out.2.1⟩
theorem uses_law (w : World) (a0 a1 : Option Addr) (l0 c0 l1 c1 : Nat) (m n : Int) (h0 : RowIs w a0 l0 c0) (h1 : RowIs w a1 l1 c1) :
    Calls Tryd.prog 7 #[.slice a0 l0 c0, .slice a1 l1 c1, .int .i64 m, .int .i64 n] w fun e w' => e = .returned (.bool true) ∧ Below w.heap.size w w' := by
  obtain ⟨s, _, hs⟩ := Src.of h0
  obtain ⟨s', _, hs'⟩ := Src.of h1
  exact uses_any w a0 a1 l0 c0 l1 c1 m n s s' hs hs'
end Go.Proofs.YtagdlpodpokmmaaDoor.S7
