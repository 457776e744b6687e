/- The contracts of the reader's Text, Bad and End, and of Read. -/
import Derived.Test.YtchoiioeeepoaaaC8Read
namespace Go.Proofs.Ytchoiioeeepoaaa.C8
open Go.RowKit
/-- A text that is told: a piece of the reader's bytes, or nothing. -/
def Told (g o n : Nat) (v : Value) : Prop := (n = 0 ∧ ∃ ad c, v = .slice (some ad) 0 c) ∨ v = .slice (some ⟨g, o, none⟩) n n
set_option maxHeartbeats 4000000 in
theorem Text_ok (w : World) (p g o : Nat) (l : List Nat) (bad : Bool) (least most : Int) (n : Nat) (h : RdAt w p g o l bad) (hl : 2 + n ≤ l.length) (hn : Cd.val (l.take 2) = n) (h1 : least ≤ (n : Int)) (h2 : (n : Int) ≤ most) :
    Calls Try.prog 37 #[.pointer (some ⟨p, 0, none⟩), .int .i64 least, .int .i64 most] w fun e w' => ∃ v, e = .returned v ∧ Told g (o + 2) n v ∧ RdAt w' p g (o + (2 + n)) (l.drop (2 + n)) bad ∧ Only [p] w w' := by
  obtain ⟨k1, k2, k3, sl, k4, ⟨q, c, rfl, rfl⟩ | ⟨c, rfl, k5, k6⟩⟩ := h
  · exact absurd hl (by simp)
  · have c0 : w.cell? ⟨p, 0, none⟩ = some (.slice (some ⟨g, o, none⟩) l.length c) := by rw [cell_of_row _ _ _ _ _ _ k4]; rfl
    have f0 : w.frozen? ⟨p, 0, none⟩ = false := frozen_of_row _ _ _ _ _ k4
    have HJ : ∀ W, W = w → Calls Try.prog 48 #[.slice (some ⟨g, o, none⟩) 2 c] W fun e w' => e = .returned (.int .i64 (n : Int)) ∧ w' = w := by
      rintro W rfl
      have := joined_any (l.take 2) g o c W (by rw [List.length_take]; omega) (fun x hx => k1 x (List.mem_of_mem_take hx)) (range_take k6 2)
      rw [List.length_take, Nat.min_eq_left (by omega), hn] at this
      exact this
    have HR : Hid (RdAt (w.setCell ⟨p, 0, none⟩ (.slice (some ⟨g, o + (2 + n), none⟩) (l.length - (2 + n)) (c - (2 + n)))) p g (o + (2 + n)) (l.drop (2 + n)) bad) :=
      RdAt.next k4 (fun x hx => k1 x (List.mem_of_mem_drop hx)) (by rw [List.length_drop]; omega) k3 (by rw [List.length_drop]) (by omega) (range_drop k6 (2 + n))
    have HR0 : Hid (c ≤ 2 + n → RdAt (w.setCell ⟨p, 0, none⟩ (.slice (some ⟨g, o, none⟩) (l.length - (2 + n)) 0)) p g (o + (2 + n)) (l.drop (2 + n)) bad) := fun hc => by
      rw [List.drop_eq_nil_of_le (by omega), show l.length - (2 + n) = 0 from by omega]
      exact RdAt.last k4 k3 _ _
    have HO : Hid (∀ v, Only [p] w (w.setCell ⟨p, 0, none⟩ v)) := fun v => Only.setCell w _ _ (by simp)
    generalize l.drop (2 + n) = ld at *
    generalize l.length = m at *
    clear hn k1 k4 k6
    have n0 : (0 : Int) ≤ (n : Int) := by omega
    have m6 : 2 + (n : Int) ≤ (m : Int) := by omega
    have mm : (m : Int) ≤ 1000000 := by omega
    have mc : (m : Int) ≤ (c : Int) := by omega
    have m2 : (2 : Int) ≤ (m : Int) := by omega
    have c2 : (2 : Int) + (n : Int) ≤ (c : Int) := by omega
    go_enter Try.func37, Try.ntmps37
    go_wp2_with fail
    refine wp_scope_jumps 0 (fun _ _ => False) (fun _ _ => 0) rfl ?_ (fun _ _ hf => hf.elim)
    go_wp2_with (first | (go_at_call 48; refine (HJ _ rfl).mono ?_; rintro e w1 ⟨rfl, rfl⟩))
    all_goals
      simp only [Exit.jump]
      go_ret
      refine ⟨_, rfl, ?_, ?_, HO.out _⟩
      · first | exact Or.inr rfl | (obtain rfl : n = 0 := by omega); exact Or.inl ⟨rfl, _, _, rfl⟩
      · first | exact HR.out | exact HR0.out (by omega) | ((obtain rfl : n = 0 := by omega); first | exact HR.out | exact HR0.out (by omega))
set_option maxRecDepth 20000 in
set_option maxHeartbeats 4000000 in
theorem Text_lack (w : World) (p g o : Nat) (l : List Nat) (bad : Bool) (least most : Int) (h : RdAt w p g o l bad) (hn : l.length < 2 ∨ l.length < 2 + Cd.val (l.take 2) ∨ (Cd.val (l.take 2) : Int) < least ∨ most < (Cd.val (l.take 2) : Int)) :
    Calls Try.prog 37 #[.pointer (some ⟨p, 0, none⟩), .int .i64 least, .int .i64 most] w fun e w' => e = .returned (.slice none 0 0) ∧ RdAt w' p g o [] true ∧ Only [p] w w' := by
  have HS : ∀ W, W = w → Calls Try.prog 49 #[.pointer (some ⟨p, 0, none⟩)] W fun e w' => e = .returned (.tuple #[]) ∧ Hid (RdAt w' p g o [] true) ∧ Hid (Only [p] w w') := by
    rintro W rfl
    exact spoil_any W p g o l bad h
  obtain ⟨k1, k2, k3, sl, k4, k5⟩ := h
  have c0 : w.cell? ⟨p, 0, none⟩ = some sl := by rw [cell_of_row _ _ _ _ _ _ k4]; rfl
  have hsl : ∃ q c, sl = .slice q l.length c ∧ l.length ≤ c := by
    rcases k5 with ⟨q, c, rfl, rfl⟩ | ⟨c, rfl, hc, _⟩
    · exact ⟨_, _, rfl, Nat.zero_le _⟩
    · exact ⟨_, _, rfl, hc⟩
  have HJ : Hid (2 ≤ l.length → ∃ c, sl = .slice (some ⟨g, o, none⟩) l.length c ∧ l.length ≤ c ∧ ∀ W, W = w → Calls Try.prog 48 #[.slice (some ⟨g, o, none⟩) 2 c] W fun e w' => e = .returned (.int .i64 (Cd.val (l.take 2) : Nat)) ∧ w' = w) := by
    intro hl
    rcases k5 with ⟨q, c, rfl, rfl⟩ | ⟨c, rfl, hc, k6⟩
    · exact absurd hl (by simp)
    · refine ⟨c, rfl, hc, ?_⟩
      rintro W rfl
      have := joined_any (l.take 2) g o c W (by rw [List.length_take]; omega) (fun x hx => k1 x (List.mem_of_mem_take hx)) (range_take k6 2)
      rw [List.length_take, Nat.min_eq_left hl] at this
      exact this
  have hn6 : Cd.val (l.take 2) < 65536 := by
    have h1 := Cd.val_lt (l.take 2) (fun x hx => k1 x (List.mem_of_mem_take hx))
    have h2 : (l.take 2).length ≤ 2 := by rw [List.length_take]; omega
    exact Nat.lt_of_lt_of_le h1 (Nat.le_trans (Nat.pow_le_pow_right (by decide) h2) (by decide))
  clear k1 k4 k5 k3
  generalize Cd.val (l.take 2) = n at *
  generalize l.length = m at *
  obtain ⟨q, c, rfl, hmc⟩ := hsl
  have mm : (m : Int) ≤ 1000000 := by omega
  have nn : (n : Int) ≤ 1000000 := by omega
  have n0 : (0 : Int) ≤ (n : Int) := by omega
  have HN : Hid (m < 2 ∨ m < 2 + n ∨ (n : Int) < least ∨ most < (n : Int)) := hn
  clear hn hn6 k2 hmc
  go_enter Try.func37, Try.ntmps37
  go_wp2_with fail
  refine wp_scope_jumps 0 (lackJ p 59 w) (fun _ _ => 0) rfl ?_ ?_
  · by_cases hm : m < 2
    · have m6 : (m : Int) < 2 := by omega
      go_wp2_with fail
      go_step3
      exact ⟨rfl, rfl, _, rfl, rfl⟩
    · obtain ⟨c', e, _, HC⟩ := HJ.out (by omega)
      cases e
      have m6 : (2 : Int) ≤ (m : Int) := by omega
      have mc : (2 : Int) ≤ (c : Int) := by omega
      by_cases h0 : (m : Int) < 2 + (n : Int)
      · go_wp2_with (first | (go_at_call 48; refine (HC _ rfl).mono ?_; rintro e w1 ⟨rfl, rfl⟩))
        go_step3
        exact ⟨rfl, rfl, _, rfl, rfl⟩
      · by_cases h1 : (n : Int) < least
        · go_wp2_with (first | (go_at_call 48; refine (HC _ rfl).mono ?_; rintro e w1 ⟨rfl, rfl⟩))
          go_step3
          exact ⟨rfl, rfl, _, rfl, rfl⟩
        · have h2 : most < (n : Int) := by have := HN.out; omega
          go_wp2_with (first | (go_at_call 48; refine (HC _ rfl).mono ?_; rintro e w1 ⟨rfl, rfl⟩))
          go_step3
          exact ⟨rfl, rfl, _, rfl, rfl⟩
  · rintro a' w' ⟨rfl, l0, h0, rfl⟩
    obtain ⟨x1, l1, rfl, h1⟩ := cons_of l0 h0
    obtain ⟨x2, l2, rfl, h2⟩ := cons_of l1 h1
    obtain ⟨x3, l3, rfl, h3⟩ := cons_of l2 h2
    obtain ⟨x4, l4, rfl, h4⟩ := cons_of l3 h3
    obtain ⟨x5, l5, rfl, h5⟩ := cons_of l4 h4
    obtain ⟨x6, l6, rfl, h6⟩ := cons_of l5 h5
    obtain ⟨x7, l7, rfl, h7⟩ := cons_of l6 h6
    obtain ⟨x8, l8, rfl, h8⟩ := cons_of l7 h7
    obtain ⟨x9, l9, rfl, h9⟩ := cons_of l8 h8
    obtain ⟨x10, l10, rfl, h10⟩ := cons_of l9 h9
    obtain ⟨x11, l11, rfl, h11⟩ := cons_of l10 h10
    obtain ⟨x12, l12, rfl, h12⟩ := cons_of l11 h11
    obtain ⟨x13, l13, rfl, h13⟩ := cons_of l12 h12
    obtain ⟨x14, l14, rfl, h14⟩ := cons_of l13 h13
    obtain ⟨x15, l15, rfl, h15⟩ := cons_of l14 h14
    obtain ⟨x16, l16, rfl, h16⟩ := cons_of l15 h15
    obtain ⟨x17, l17, rfl, h17⟩ := cons_of l16 h16
    obtain ⟨x18, l18, rfl, h18⟩ := cons_of l17 h17
    obtain ⟨x19, l19, rfl, h19⟩ := cons_of l18 h18
    obtain ⟨x20, l20, rfl, h20⟩ := cons_of l19 h19
    obtain ⟨x21, l21, rfl, h21⟩ := cons_of l20 h20
    obtain ⟨x22, l22, rfl, h22⟩ := cons_of l21 h21
    obtain ⟨x23, l23, rfl, h23⟩ := cons_of l22 h22
    obtain ⟨x24, l24, rfl, h24⟩ := cons_of l23 h23
    obtain ⟨x25, l25, rfl, h25⟩ := cons_of l24 h24
    obtain ⟨x26, l26, rfl, h26⟩ := cons_of l25 h25
    obtain ⟨x27, l27, rfl, h27⟩ := cons_of l26 h26
    obtain ⟨x28, l28, rfl, h28⟩ := cons_of l27 h27
    obtain ⟨x29, l29, rfl, h29⟩ := cons_of l28 h28
    obtain ⟨x30, l30, rfl, h30⟩ := cons_of l29 h29
    obtain ⟨x31, l31, rfl, h31⟩ := cons_of l30 h30
    obtain ⟨x32, l32, rfl, h32⟩ := cons_of l31 h31
    obtain ⟨x33, l33, rfl, h33⟩ := cons_of l32 h32
    obtain ⟨x34, l34, rfl, h34⟩ := cons_of l33 h33
    obtain ⟨x35, l35, rfl, h35⟩ := cons_of l34 h34
    obtain ⟨x36, l36, rfl, h36⟩ := cons_of l35 h35
    obtain ⟨x37, l37, rfl, h37⟩ := cons_of l36 h36
    obtain ⟨x38, l38, rfl, h38⟩ := cons_of l37 h37
    obtain ⟨x39, l39, rfl, h39⟩ := cons_of l38 h38
    obtain ⟨x40, l40, rfl, h40⟩ := cons_of l39 h39
    obtain ⟨x41, l41, rfl, h41⟩ := cons_of l40 h40
    obtain ⟨x42, l42, rfl, h42⟩ := cons_of l41 h41
    obtain ⟨x43, l43, rfl, h43⟩ := cons_of l42 h42
    obtain ⟨x44, l44, rfl, h44⟩ := cons_of l43 h43
    obtain ⟨x45, l45, rfl, h45⟩ := cons_of l44 h44
    obtain ⟨x46, l46, rfl, h46⟩ := cons_of l45 h45
    obtain ⟨x47, l47, rfl, h47⟩ := cons_of l46 h46
    obtain ⟨x48, l48, rfl, h48⟩ := cons_of l47 h47
    obtain ⟨x49, l49, rfl, h49⟩ := cons_of l48 h48
    obtain ⟨x50, l50, rfl, h50⟩ := cons_of l49 h49
    obtain ⟨x51, l51, rfl, h51⟩ := cons_of l50 h50
    obtain ⟨x52, l52, rfl, h52⟩ := cons_of l51 h51
    obtain ⟨x53, l53, rfl, h53⟩ := cons_of l52 h52
    obtain ⟨x54, l54, rfl, h54⟩ := cons_of l53 h53
    obtain ⟨x55, l55, rfl, h55⟩ := cons_of l54 h54
    obtain ⟨x56, l56, rfl, h56⟩ := cons_of l55 h55
    obtain ⟨x57, l57, rfl, h57⟩ := cons_of l56 h56
    obtain ⟨x58, l58, rfl, h58⟩ := cons_of l57 h57
    obtain ⟨x59, l59, rfl, h59⟩ := cons_of l58 h58
    obtain rfl := List.eq_nil_of_length_eq_zero h59
    go_wp2_with (first | (go_at_call 49; refine (HS _ rfl).mono ?_; rintro e w1 ⟨rfl, HR1, HO1⟩))
    simp only [Exit.jump]
    go_ret
    exact ⟨rfl, HR1.out, HO1.out⟩
set_option maxHeartbeats 1000000 in
theorem End_any (w : World) (p g o : Nat) (l : List Nat) (bad : Bool) (h : RdAt w p g o l bad) :
    Calls Try.prog 38 #[.pointer (some ⟨p, 0, none⟩)] w fun e w' => e = .returned (.bool (!bad && decide (l.length = 0))) ∧ w' = w := by
  obtain ⟨-, -, -, sl, k4, k5⟩ := h
  have c0 : w.cell? ⟨p, 0, none⟩ = some sl := by rw [cell_of_row _ _ _ _ _ _ k4]; rfl
  have c1 : w.cell? ⟨p, 1, none⟩ = some (.bool bad) := by rw [cell_of_row _ _ _ _ _ _ k4]; rfl
  have hsl : ∃ q c, sl = .slice q l.length c := by
    rcases k5 with ⟨q, c, rfl, rfl⟩ | ⟨c, rfl, hc, _⟩
    · exact ⟨_, _, rfl⟩
    · exact ⟨_, _, rfl⟩
  obtain ⟨q, c, rfl⟩ := hsl
  clear k4 k5
  generalize l.length = m at *
  cases bad
  · by_cases hm : m = 0
    · subst hm
      go_enter Try.func38, Try.ntmps38
      go_wp2_with fail
      go_ret
      exact ⟨rfl, rfl⟩
    · have m0 : ((m : Int) == 0) = false := by simp; omega
      have e0 : (!false && decide (m = 0)) = false := by simp [hm]
      rw [e0]
      go_enter Try.func38, Try.ntmps38
      go_wp2_with fail
      go_ret
      exact ⟨rfl, rfl⟩
  · go_enter Try.func38, Try.ntmps38
    go_wp2_with fail
    go_ret
    exact ⟨rfl, rfl⟩
end Go.Proofs.Ytchoiioeeepoaaa.C8
