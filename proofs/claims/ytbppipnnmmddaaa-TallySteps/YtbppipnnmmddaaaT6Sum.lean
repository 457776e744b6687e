/- The contract of Sum. -/
import Derived.Test.YtbppipnnmmddaaaT6Steps
import Derived.ScopeJumps
namespace Go.Proofs.Ytbppipnnmmddaaa
open Go.RowKit Ieee
/-- Both are counts, as a test. -/
abbrev Rq (m n : Int) : Prop := 0 ≤ m ∧ m ≤ 1099511627776 ∧ 0 ≤ n ∧ n ≤ 1099511627776
/-- Where steps lead. -/
def sums : Int → Int → List (Int × Int) → Option (Int × Int)
  | m, n, [] => some (m, n)
  | m, n, (x, y) :: r => if Rq (m + x) (n + y) then sums (m + x) (n + y) r else none
/-- What Sum answers. -/
def SumSays (m n : Int) (D : List (Int × Int)) (e : Ending) : Prop :=
  (∃ m' n', sums m n D = some (m', n') ∧ ∃ x y, e = .returned (.tuple #[.complex .f64 x y, .int .i64 0]) ∧ U x m' ∧ U y n') ∨ (sums m n D = none ∧ e = .returned (.tuple #[.complex .f64 0 0, .int .i64 12]))
def sumJ (D : List (Int × Int)) (a b : Nat) (m n : Int) (p : Option Addr) (nn c : Nat) (w : World) (a' : Act) (w' : World) : Prop :=
  ∃ (j x y : Nat) (m1 n1 : Int) (k : Nat) (l : List Value), j ≤ nn ∧ U x m1 ∧ U y n1 ∧ Rt m1 n1 ∧ sums m n D = sums m1 n1 (D.drop j) ∧ w' = w.drewN k ∧ l.length = 25 ∧
    a' = { tmps := (.complex .f64 a b :: .slice p nn c :: undef :: undef :: .complex .f64 0 0 :: .int .i64 0 :: .complex .f64 x y :: .int .i64 (j : Nat) :: l).toArray, defers := [] }
def sumMu (nn : Nat) (a' : Act) (_ : World) : Nat := nn - (intOf (a'.tmps.getD 7 undef)).toNat
theorem cons_of {n : Nat} : ∀ (l : List Value), l.length = n + 1 → ∃ x l', l = x :: l' ∧ l'.length = n
  | x :: l', h => ⟨x, l', rfl, by simpa using h⟩
set_option maxHeartbeats 4000000 in
theorem Sum_ok (D : List (Int × Int)) (a b : Nat) (m n : Int) (p : Option Addr) (nn c : Nat) (w : World) (hx : U a m) (hy : U b n) (hr1 : Rt m n) (h : Row w p D) (hs : Steps D) (hn : D.length = nn) (hl : nn ≤ 40) : Calls Try.prog 15 #[.complex .f64 a b, .slice p nn c] w fun e w' => ∃ k, SumSays m n D e ∧ w' = w.drewN k := by
  have HR : Hid (Row w p D) := h
  have HS : Hid (Steps D) := hs
  have HN : Hid (D.length = nn) := hn
  have HA : Hid (∀ w : World, Row w p D → Calls Try.prog 22 #[.slice p nn c] w fun e w' => ∃ k, e = .returned (.bool true) ∧ w' = w.drewN k) := fun w hw => by
    have := areSteps_yes D p c w hw hs (by omega)
    rwa [hn] at this
  have ht := Ta_of hx hy hr1
  have HE : Hid (sums m n D = sums m n (D.drop 0)) := rfl
  clear h hs hn
  go_enter Try.func15, Try.ntmps15
  go_wp2_with fail
  refine wp_scope_jumps 0 (sumJ D a b m n p nn c w) (sumMu nn) rfl ?_ ?_
  · go_wp2_with (first | (go_at_call 21; refine (isTally_yes a b hx.2 hy.2 ht _).mono ?_; rintro e w' ⟨k0, rfl, rfl⟩) | (go_at_call 22; refine (HA.out _ (HR.out.drewN _)).mono ?_; rintro e w' ⟨k1, rfl, rfl⟩))
    go_step3
    clear ht
    by_cases hlt : 0 < nn
    · obtain ⟨g, o, x2, y2, rfl, hc, hx2, hy2⟩ := HR.out 0 (by rw [HN.out]; exact hlt)
      rw [Nat.add_zero] at hc
      have hst := HS.out 0 (by rw [HN.out]; exact hlt)
      have hdr : D.drop 0 = D[0]'(by rw [HN.out]; exact hlt) :: D.drop (0 + 1) := List.drop_eq_getElem_cons _
      generalize hd : D[0]'(by rw [HN.out]; exact hlt) = d at *
      obtain ⟨dx, dy⟩ := d
      simp only at hx2 hy2 hst
      obtain ⟨rx, hrx, hrx2⟩ := U_add hx hx2 (by obtain ⟨_, _, _, _⟩ := hr1; obtain ⟨_, _, _, _⟩ := hst; omega)
      obtain ⟨ry, hry, hry2⟩ := U_add hy hy2 (by obtain ⟨_, _, _, _⟩ := hr1; obtain ⟨_, _, _, _⟩ := hst; omega)
      have hadd : ∀ w : World, (binOp .add 25 (.complex .f64 a b) (.complex .f64 x2 y2)).run Try.prog w = .ok (.complex .f64 rx ry) w := fun w => run_complex_sum w .add (.inl rfl) 25 .f64 a b x2 y2 rx ry (csum hrx hry)
      have hne : ¬ (0 : Int) = (nn : Int) := by omega
      have hlt' : (0 : Int) < (nn : Int) := by omega
      have HE2 : Hid (sums m n D = if Rq (m + dx) (n + dy) then sums (m + dx) (n + dy) (D.drop (0 + 1)) else none) := by
        show _ = _
        rw [HE.out, hdr]
        rfl
      have HX : Hid (U rx (m + dx)) := hrx2
      have HY : Hid (U ry (n + dy)) := hry2
      have b1 := hrx2.2
      have b2 := hry2.2
      by_cases hR : Rt (m + dx) (n + dy)
      · have ht := Ta_of hrx2 hry2 hR
        have HR2 : Hid (Rt (m + dx) (n + dy)) := hR
        have HE3 : Hid (sums m n D = sums (m + dx) (n + dy) (D.drop (0 + 1))) := HE2.out.trans (if_pos hR)
        clear HE2 hrx2 hry2 hR hx hy hx2 hy2 hr1 hst hdr hd hrx hry HE
        generalize m + dx = m2 at *
        generalize n + dy = n2 at *
        go_wp2_with (go_at_call 21; with_reducible refine (isTally_yes rx ry b1 b2 ht _).mono ?_; rintro e w' ⟨k', rfl, rfl⟩)
        go_step3
        exact ⟨rfl, 0 + 1, rx, ry, m2, n2, _, _, by omega, HX.out, HY.out, HR2.out, HE3.out, rfl, rfl, rfl⟩
      · have ht : ¬ T6.Ta rx ry := fun h => hR ((Ta_iff hrx2 hry2).1 h)
        have HE3 : Hid (sums m n D = none) := HE2.out.trans (if_neg hR)
        clear HE2 hrx2 hry2 hR hx hy hx2 hy2 hr1 hst hdr hd hrx hry HE
        generalize m + dx = m2 at *
        generalize n + dy = n2 at *
        go_wp2_with (go_at_call 21; with_reducible refine (isTally_no rx ry b1 b2 ht _).mono ?_; rintro e w' ⟨k', rfl, rfl⟩)
        simp only [Exit.jump]
        go_ret2
        exact ⟨_, .inr ⟨HE3.out, rfl⟩, rfl⟩
    · have hj : 0 = nn := by omega
      have heq : (0 : Int) = (nn : Int) := by omega
      have HE3 : Hid (sums m n D = some (m, n)) := by
        show _ = _
        rw [HE.out, List.drop_eq_nil_of_le (by rw [HN.out]; omega)]
        rfl
      have HX : Hid (U a m) := hx
      have HY : Hid (U b n) := hy
      clear hx hy hr1
      go_wp2_with fail
      simp only [Exit.jump]
      go_ret2
      exact ⟨_, .inl ⟨_, _, HE3.out, _, _, rfl, HX.out, HY.out⟩, rfl⟩
  · rintro a' w' ⟨j, x, y, m1, n1, k, l, hjn, hx, hy, hr1, HE0, rfl, hll, rfl⟩
    have HE : Hid (sums m n D = sums m1 n1 (D.drop j)) := HE0
    clear HE0
    obtain ⟨u1, l1, rfl, h1⟩ := cons_of l hll; clear hll
    obtain ⟨u2, l2, rfl, h2⟩ := cons_of l1 h1; clear h1
    obtain ⟨u3, l3, rfl, h3⟩ := cons_of l2 h2; clear h2
    obtain ⟨u4, l4, rfl, h4⟩ := cons_of l3 h3; clear h3
    obtain ⟨u5, l5, rfl, h5⟩ := cons_of l4 h4; clear h4
    obtain ⟨u6, l6, rfl, h6⟩ := cons_of l5 h5; clear h5
    obtain ⟨u7, l7, rfl, h7⟩ := cons_of l6 h6; clear h6
    obtain ⟨u8, l8, rfl, h8⟩ := cons_of l7 h7; clear h7
    obtain ⟨u9, l9, rfl, h9⟩ := cons_of l8 h8; clear h8
    obtain ⟨u10, l10, rfl, h10⟩ := cons_of l9 h9; clear h9
    obtain ⟨u11, l11, rfl, h11⟩ := cons_of l10 h10; clear h10
    obtain ⟨u12, l12, rfl, h12⟩ := cons_of l11 h11; clear h11
    obtain ⟨u13, l13, rfl, h13⟩ := cons_of l12 h12; clear h12
    obtain ⟨u14, l14, rfl, h14⟩ := cons_of l13 h13; clear h13
    obtain ⟨u15, l15, rfl, h15⟩ := cons_of l14 h14; clear h14
    obtain ⟨u16, l16, rfl, h16⟩ := cons_of l15 h15; clear h15
    obtain ⟨u17, l17, rfl, h17⟩ := cons_of l16 h16; clear h16
    obtain ⟨u18, l18, rfl, h18⟩ := cons_of l17 h17; clear h17
    obtain ⟨u19, l19, rfl, h19⟩ := cons_of l18 h18; clear h18
    obtain ⟨u20, l20, rfl, h20⟩ := cons_of l19 h19; clear h19
    obtain ⟨u21, l21, rfl, h21⟩ := cons_of l20 h20; clear h20
    obtain ⟨u22, l22, rfl, h22⟩ := cons_of l21 h21; clear h21
    obtain ⟨u23, l23, rfl, h23⟩ := cons_of l22 h22; clear h22
    obtain ⟨u24, l24, rfl, h24⟩ := cons_of l23 h23; clear h23
    obtain ⟨u25, l25, rfl, h25⟩ := cons_of l24 h24; clear h24
    obtain rfl := List.eq_nil_of_length_eq_zero h25; clear h25
    by_cases hlt : j < nn
    · obtain ⟨g, o, x2, y2, rfl, hc, hx2, hy2⟩ := HR.out j (by rw [HN.out]; exact hlt)
      skip
      have hst := HS.out j (by rw [HN.out]; exact hlt)
      have hdr : D.drop j = D[j]'(by rw [HN.out]; exact hlt) :: D.drop (j + 1) := List.drop_eq_getElem_cons _
      generalize hd : D[j]'(by rw [HN.out]; exact hlt) = d at *
      obtain ⟨dx, dy⟩ := d
      simp only at hx2 hy2 hst
      obtain ⟨rx, hrx, hrx2⟩ := U_add hx hx2 (by obtain ⟨_, _, _, _⟩ := hr1; obtain ⟨_, _, _, _⟩ := hst; omega)
      obtain ⟨ry, hry, hry2⟩ := U_add hy hy2 (by obtain ⟨_, _, _, _⟩ := hr1; obtain ⟨_, _, _, _⟩ := hst; omega)
      have hadd : ∀ w : World, (binOp .add 25 (.complex .f64 x y) (.complex .f64 x2 y2)).run Try.prog w = .ok (.complex .f64 rx ry) w := fun w => run_complex_sum w .add (.inl rfl) 25 .f64 x y x2 y2 rx ry (csum hrx hry)
      have hne : ¬ ((j : Nat) : Int) = (nn : Int) := by omega
      have hlt' : ((j : Nat) : Int) < (nn : Int) := by omega
      have HE2 : Hid (sums m n D = if Rq (m1 + dx) (n1 + dy) then sums (m1 + dx) (n1 + dy) (D.drop (j + 1)) else none) := by
        show _ = _
        rw [HE.out, hdr]
        rfl
      have HX : Hid (U rx (m1 + dx)) := hrx2
      have HY : Hid (U ry (n1 + dy)) := hry2
      have b1 := hrx2.2
      have b2 := hry2.2
      by_cases hR : Rt (m1 + dx) (n1 + dy)
      · have ht := Ta_of hrx2 hry2 hR
        have HR2 : Hid (Rt (m1 + dx) (n1 + dy)) := hR
        have HE3 : Hid (sums m n D = sums (m1 + dx) (n1 + dy) (D.drop (j + 1))) := HE2.out.trans (if_pos hR)
        clear HE2 hrx2 hry2 hR hx hy hx2 hy2 hr1 hst hdr hd hrx hry HE
        generalize m1 + dx = m2 at *
        generalize n1 + dy = n2 at *
        go_wp2_with (go_at_call 21; with_reducible refine (isTally_yes rx ry b1 b2 ht _).mono ?_; rintro e w' ⟨k', rfl, rfl⟩)
        go_step3
        rw [show ((j : Nat) : Int) + 1 = ((j + 1 : Nat) : Int) from by omega]
        refine ⟨rfl, ⟨j + 1, rx, ry, m2, n2, _, _, by omega, HX.out, HY.out, HR2.out, HE3.out, rfl, rfl, rfl⟩, ?_⟩
        simp only [sumMu, intOf]
        simp
        omega
      · have ht : ¬ T6.Ta rx ry := fun h => hR ((Ta_iff hrx2 hry2).1 h)
        have HE3 : Hid (sums m n D = none) := HE2.out.trans (if_neg hR)
        clear HE2 hrx2 hry2 hR hx hy hx2 hy2 hr1 hst hdr hd hrx hry HE
        generalize m1 + dx = m2 at *
        generalize n1 + dy = n2 at *
        go_wp2_with (go_at_call 21; with_reducible refine (isTally_no rx ry b1 b2 ht _).mono ?_; rintro e w' ⟨k', rfl, rfl⟩)
        simp only [Exit.jump]
        go_ret2
        exact ⟨_, .inr ⟨HE3.out, rfl⟩, rfl⟩
    · have hj : j = nn := by omega
      have heq : ((j : Nat) : Int) = (nn : Int) := by omega
      have HE3 : Hid (sums m n D = some (m1, n1)) := by
        show _ = _
        rw [HE.out, List.drop_eq_nil_of_le (by rw [HN.out]; omega)]
        rfl
      have HX : Hid (U x m1) := hx
      have HY : Hid (U y n1) := hy
      clear hx hy hr1
      go_wp2_with fail
      simp only [Exit.jump]
      go_ret2
      exact ⟨_, .inl ⟨_, _, HE3.out, _, _, rfl, HX.out, HY.out⟩, rfl⟩
set_option maxHeartbeats 1000000 in
theorem Sum_bad (a b : Nat) (ha : a < 2 ^ 64) (hb : b < 2 ^ 64) (h : ¬ T6.Ta a b) (p : Option Addr) (n c : Nat) (w : World) : Calls Try.prog 15 #[.complex .f64 a b, .slice p n c] w fun e w' => ∃ k, e = .returned (.tuple #[.complex .f64 0 0, .int .i64 10]) ∧ w' = w.drewN k := by
  go_enter Try.func15, Try.ntmps15
  go_wp2_with (go_at_call 21; refine (isTally_no a b ha hb h _).mono ?_; rintro e w' ⟨k, rfl, rfl⟩)
  refine wp_scope_jumps 0 (fun _ _ => False) (fun _ _ => 0) rfl ?_ ?_
  · go_wp2_with (go_at_call 21; refine (isTally_no a b ha hb h _).mono ?_; rintro e w' ⟨k, rfl, rfl⟩)
    simp only [Exit.jump]
    go_ret2
    exact ⟨_, rfl, rfl⟩
  · intro a' w' hf
    exact hf.elim
end Go.Proofs.Ytbppipnnmmddaaa
