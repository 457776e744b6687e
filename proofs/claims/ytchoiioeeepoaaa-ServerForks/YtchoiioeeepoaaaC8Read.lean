/- The contracts of the reader: joined, Clone, Read, spoil, Number, Text, Bad, End. -/
import Derived.Test.YtchoiioeeepoaaaC8Put2
import Derived.Laws.BitsAllLaws
import Derived.ScopeJumps
namespace Go.Proofs.Ytchoiioeeepoaaa.C8
open Go.RowKit
theorem i64_or_nat (a b : Nat) (ha : a < 9223372036854775808) (hb : b < 9223372036854775808) : bits .or .i64 (a : Int) (b : Int) = ((a ||| b : Nat) : Int) := by
  have hx : a ||| b < 2 ^ 63 := Nat.or_lt_two_pow (by omega) (by omega)
  show IntKind.i64.wrap ((BitVec.ofInt 64 (a : Int) ||| BitVec.ofInt 64 (b : Int)).toNat : Int) = _
  rw [BitVec.toNat_or, ofInt_u64 a (by omega), ofInt_u64 b (by omega)]
  exact i64_id _ (by omega)
theorem or_byte_i {a x : Nat} (ha : a < 36028797018963968) (hx : x < 256) : bits BinOp.or .i64 ((a : Int) * 256) (x : Int) = (a : Int) * 256 + (x : Int) := by
  have h := i64_or_nat (a * 256) x (by omega) (by omega)
  rw [Int.natCast_mul] at h
  refine h.trans ?_
  rw [Nat.mul_comm, ← Nat.two_pow_add_eq_or_of_lt (i := 8) hx a]
  omega
set_option maxHeartbeats 1000000 in
theorem joined_any (l : List Nat) (b o c : Nat) (w : World) (hl : l.length ≤ 6) (hs : ∀ x ∈ l, x < 256) (hr : w.rangeAt b o (ints .u8 l)) :
    Calls Try.prog 48 #[.slice (some ⟨b, o, none⟩) l.length c] w fun e w' => e = .returned (.int .i64 (Cd.val l : Nat)) ∧ w' = w := by
  obtain ⟨n, HN⟩ : ∃ n, Hid (l.length = n) := ⟨_, rfl⟩
  have hl6 : n ≤ 6 := by rw [← HN.out]; exact hl
  rw [HN.out]
  have HV : Hid (∀ k, k < n → Cd.val (l.take (k + 1)) = Cd.val (l.take k) * 256 + Sp.nth l k) := fun k hk => val_take (by rw [HN.out]; exact hk)
  have HL : Hid (∀ k, k < n → Cd.val (l.take k) < 36028797018963968) := fun k hk => by
    have h1 := Cd.val_lt (l.take k) (fun x hx => hs x (List.mem_of_mem_take hx))
    have h2 : (l.take k).length ≤ 5 := by rw [List.length_take]; omega
    exact Nat.lt_of_lt_of_le h1 (Nat.le_trans (Nat.pow_le_pow_right (by decide) h2) (by decide))
  have HC : Hid (∀ k, k < n → w.cell? ⟨b, o + k, none⟩ = some (.int .u8 (Sp.nth l k : Nat))) := fun k hk => hr k _ (ints_get _ _ _ (by rw [HN.out]; exact hk))
  have HX : Hid (∀ k, k < n → Sp.nth l k < 256) := fun k _ => Sp.nth_lt (by decide) hs k
  have HE : Hid (l.take n = l) := List.take_of_length_le (by rw [HN.out]; omega)
  have H0 : Hid (Cd.val (l.take 0) = 0) := rfl
  clear hl hs hr
  go_enter Try.func48, Try.ntmps48
  go_wp2_with fail
  go_loop [3, 8] (fun v i => ∃ k : Nat, k ≤ n ∧ i = .int .i64 k ∧ v = .int .i64 (Cd.val (l.take k) : Nat)) (fun _ i => n - (intOf i).toNat)
  case atStart => exact ⟨0, by omega, rfl, by rw [H0.out]; rfl⟩
  case round =>
    obtain ⟨k, hk, rfl, rfl⟩ := hrel
    by_cases hlt : k < n
    · have hx := HX.out k hlt
      have hcell := HC.out k hlt
      have hv := HL.out k hlt
      have HNH : Hid (Cd.val (l.take (k + 1)) = Cd.val (l.take k) * 256 + Sp.nth l k) := HV.out k hlt
      generalize Cd.val (l.take k) = a at *
      generalize Sp.nth l k = x at *
      have hor := or_byte_i hv hx
      have k1 : (k : Int) < (n : Int) := by omega
      have k0 : (0 : Int) ≤ (k : Int) := by omega
      go_wp2_with fail
      go_round
      case rel => exact ⟨k + 1, by omega, by go_num, by rw [HNH.out]; go_num⟩
      case measure => simp [intOf]; omega
    · obtain rfl : k = n := by omega
      have k1 : ¬ (k : Int) < (k : Int) := by omega
      rw [HE.out]
      clear HE HV HL H0
      go_wp2_with fail
      go_ret
      exact ⟨rfl, rfl⟩
/-- A reader: what it has left, and whether it is bad; its bytes lie in the block g, from o on. -/
def RdAt (w : World) (p g o : Nat) (l : List Nat) (bad : Bool) : Prop :=
  (∀ x ∈ l, x < 256) ∧ l.length ≤ 1000000 ∧ p ≠ g ∧ ∃ sl, w.heap[p]? = some (.cells #[sl, .bool bad] 87 (0, 0)) ∧ ((∃ q c, sl = .slice q 0 c ∧ l = []) ∨ ∃ c, sl = .slice (some ⟨g, o, none⟩) l.length c ∧ l.length ≤ c ∧ w.rangeAt g o (ints .u8 l))
theorem RdAt.lt {w : World} {p g o : Nat} {l : List Nat} {bad : Bool} (h : RdAt w p g o l bad) : p < w.heap.size := by
  obtain ⟨_, _, _, sl, h1, _⟩ := h
  exact (Array.getElem?_eq_some_iff.1 h1).1
theorem RdAt.kept {w w' : World} {p g o : Nat} {l : List Nat} {bad : Bool} (h : RdAt w p g o l bad) (hp : w'.heap[p]? = w.heap[p]?) (hg : g < w.heap.size → w'.heap[g]? = w.heap[g]?) : RdAt w' p g o l bad := by
  obtain ⟨h1, h2, h3, sl, h4, h5⟩ := h
  refine ⟨h1, h2, h3, sl, hp.trans h4, ?_⟩
  rcases h5 with h5 | ⟨c, h5, h6, h7⟩
  · exact .inl h5
  · refine .inr ⟨c, h5, h6, ?_⟩
    by_cases h0 : l = []
    · subst h0
      exact fun j u hu => by simp [ints] at hu
    · exact range_kept h7 (hg (range_lt h7 (fun e => h0 (by have := congrArg List.length e; rw [ints_length] at this; exact List.eq_nil_of_length_eq_zero this))))
theorem RdAt.below {w w' : World} {p g o : Nat} {l : List Nat} {bad : Bool} (h : RdAt w p g o l bad) (hb : Below w.heap.size w w') : RdAt w' p g o l bad :=
  h.kept (hb.block p h.lt) (fun hg => hb.block g hg)
theorem RdAt.only {w w' : World} {p g o : Nat} {l : List Nat} {bad : Bool} {bs : List Nat} (h : RdAt w p g o l bad) (hb : Only bs w w') (hp : p ∉ bs) (hg : g ∉ bs) : RdAt w' p g o l bad :=
  h.kept (hb.block p h.lt hp) (fun hl => hb.block g hl hg)
theorem RdAt.last {w : World} {p g o : Nat} {bad : Bool} {sl : Value} (h : w.heap[p]? = some (.cells #[sl, .bool bad] 87 (0, 0))) (hpg : p ≠ g) (q : Option Addr) (c : Nat) :
    RdAt (w.setCell ⟨p, 0, none⟩ (.slice q 0 c)) p g o [] bad :=
  ⟨(fun x hx => by cases hx), by simp, hpg, _, heap_setCell_same w p 0 _ 87 (.slice q 0 c) h, .inl ⟨_, _, rfl, rfl⟩⟩
/-- Its bytes are set anew. -/
theorem RdAt.next {w : World} {p g o : Nat} {l : List Nat} {bad : Bool} {sl : Value} (h : w.heap[p]? = some (.cells #[sl, .bool bad] 87 (0, 0))) (hs : ∀ x ∈ l, x < 256) (hl : l.length ≤ 1000000) (hpg : p ≠ g) {n c : Nat} (hn : l.length = n) (hc : n ≤ c) (hr : w.rangeAt g o (ints .u8 l)) :
    RdAt (w.setCell ⟨p, 0, none⟩ (.slice (some ⟨g, o, none⟩) n c)) p g o l bad := by
  have h1 := heap_setCell_same w p 0 _ 87 (.slice (some ⟨g, o, none⟩) n c) h
  refine ⟨hs, hl, hpg, _, h1, .inr ⟨c, by rw [hn], by omega, range_kept hr (Below.heap_setCell _ _ _ _ (fun e => hpg e.symm))⟩⟩
theorem ints_drop (k : IntKind) (l : List Nat) (n : Nat) : ints k (l.drop n) = (ints k l).drop n := by simp [ints]
theorem range_drop {w : World} {g o : Nat} {l : List Nat} (h : w.rangeAt g o (ints .u8 l)) (n : Nat) : w.rangeAt g (o + n) (ints .u8 (l.drop n)) := fun j u hu => by
  rw [ints_drop, List.getElem?_drop] at hu
  rw [Nat.add_assoc]
  exact h _ _ hu
theorem range_take {w : World} {g o : Nat} {l : List Nat} (h : w.rangeAt g o (ints .u8 l)) (n : Nat) : w.rangeAt g o (ints .u8 (l.take n)) := fun j u hu => by
  have e : ints .u8 (l.take n) = (ints .u8 l).take n := by simp [ints]
  rw [e, List.getElem?_take] at hu
  split at hu
  · exact h _ _ hu
  · cases hu
set_option maxHeartbeats 1000000 in
theorem spoil_any (w : World) (p g o : Nat) (l : List Nat) (bad : Bool) (h : RdAt w p g o l bad) :
    Calls Try.prog 49 #[.pointer (some ⟨p, 0, none⟩)] w fun e w' => e = .returned (.tuple #[]) ∧ RdAt w' p g o [] true ∧ Only [p] w w' := by
  obtain ⟨h1, h2, h3, sl, h4, -⟩ := h
  have c0 : w.cell? ⟨p, 0, none⟩ = some sl := by rw [cell_of_row _ _ _ _ _ _ h4]; rfl
  have c1 : w.cell? ⟨p, 1, none⟩ = some (.bool bad) := by rw [cell_of_row _ _ _ _ _ _ h4]; rfl
  have f0 : w.frozen? ⟨p, 0, none⟩ = false := frozen_of_row _ _ _ _ _ h4
  have f1 : w.frozen? ⟨p, 1, none⟩ = false := frozen_of_row _ _ _ _ _ h4
  have HR : Hid (RdAt ((w.setCell ⟨p, 0, none⟩ (.slice none 0 0)).setCell ⟨p, 1, none⟩ (.bool true)) p g o [] true) := by
    have k1 := heap_setCell_same w p 0 _ 87 (.slice none 0 0) h4
    have k2 := heap_setCell_same _ p 1 _ 87 (.bool true) k1
    show RdAt _ _ _ _ _ _
    exact ⟨(fun x hx => by cases hx), by simp, h3, _, k2, .inl ⟨_, _, rfl, rfl⟩⟩
  have HO : Hid (Only [p] w ((w.setCell ⟨p, 0, none⟩ (.slice none 0 0)).setCell ⟨p, 1, none⟩ (.bool true))) :=
    (Only.setCell w _ _ (by simp)).trans (Only.setCell _ _ _ (by simp))
  clear h1 h2 h3 h4
  go_enter Try.func49, Try.ntmps49
  go_wp2_with fail
  go_end0
  exact ⟨rfl, HR.out, HO.out⟩
set_option maxHeartbeats 2000000 in
theorem Number_ok (w : World) (p g o : Nat) (l : List Nat) (bad : Bool) (least most : Int) (n : Nat) (h : RdAt w p g o l bad) (hl : 6 ≤ l.length) (hn : Cd.val (l.take 6) = n) (h1 : least ≤ (n : Int)) (h2 : (n : Int) ≤ most) :
    Calls Try.prog 36 #[.pointer (some ⟨p, 0, none⟩), .int .i64 least, .int .i64 most] w fun e w' => e = .returned (.int .i64 (n : Int)) ∧ RdAt w' p g (o + 6) (l.drop 6) bad ∧ Only [p] w w' := by
  obtain ⟨k1, k2, k3, sl, k4, ⟨q, c, rfl, rfl⟩ | ⟨c, rfl, k5, k6⟩⟩ := h
  · exact absurd hl (by simp)
  · have c0 : w.cell? ⟨p, 0, none⟩ = some (.slice (some ⟨g, o, none⟩) l.length c) := by rw [cell_of_row _ _ _ _ _ _ k4]; rfl
    have f0 : w.frozen? ⟨p, 0, none⟩ = false := frozen_of_row _ _ _ _ _ k4
    have HJ : ∀ W, W = w → Calls Try.prog 48 #[.slice (some ⟨g, o, none⟩) 6 c] W fun e w' => e = .returned (.int .i64 (n : Int)) ∧ w' = w := by
      rintro W rfl
      have := joined_any (l.take 6) g o c W (by rw [List.length_take]; omega) (fun x hx => k1 x (List.mem_of_mem_take hx)) (range_take k6 6)
      rw [List.length_take, Nat.min_eq_left hl, hn] at this
      exact this
    have HR : Hid (RdAt (w.setCell ⟨p, 0, none⟩ (.slice (some ⟨g, o + 6, none⟩) (l.length - 6) (c - 6))) p g (o + 6) (l.drop 6) bad) :=
      RdAt.next k4 (fun x hx => k1 x (List.mem_of_mem_drop hx)) (by rw [List.length_drop]; omega) k3 (by rw [List.length_drop]) (by omega) (range_drop k6 6)
    have HR0 : Hid (c ≤ 6 → RdAt (w.setCell ⟨p, 0, none⟩ (.slice (some ⟨g, o, none⟩) (l.length - 6) 0)) p g (o + 6) (l.drop 6) bad) := fun hc => by
      rw [List.drop_eq_nil_of_le (by omega), show l.length - 6 = 0 from by omega]
      exact RdAt.last k4 k3 _ _
    have HO : Hid (∀ v, Only [p] w (w.setCell ⟨p, 0, none⟩ v)) := fun v => Only.setCell w _ _ (by simp)
    generalize l.drop 6 = ld at *
    generalize l.length = m at *
    clear hn k1 k4 k6
    have m6 : (6 : Int) ≤ (m : Int) := by omega
    have mc : (m : Int) ≤ (c : Int) := by omega
    go_enter Try.func36, Try.ntmps36
    go_wp2_with fail
    refine wp_scope_jumps 0 (fun _ _ => False) (fun _ _ => 0) rfl ?_ (fun _ _ hf => hf.elim)
    go_wp2_with (first | (go_at_call 48; refine (HJ _ rfl).mono ?_; rintro e w1 ⟨rfl, rfl⟩))
    all_goals
      simp only [Exit.jump]
      go_ret
      exact ⟨rfl, (by first | exact HR.out | exact HR0.out (by omega)), HO.out _⟩
theorem cons_of {n : Nat} : ∀ (l : List Value), l.length = n + 1 → ∃ x l', l = x :: l' ∧ l'.length = n
  | x :: l', h => ⟨x, l', rfl, by simpa using h⟩
/-- Where the ways out meet. -/
def lackJ (p m : Nat) (w : World) (a' : Act) (w' : World) : Prop := w' = w ∧ ∃ l : List Value, l.length = m ∧ a' = { tmps := (.pointer (some ⟨p, 0, none⟩) :: l).toArray, defers := [] }
set_option maxHeartbeats 4000000 in
theorem Number_lack (w : World) (p g o : Nat) (l : List Nat) (bad : Bool) (least most : Int) (h : RdAt w p g o l bad) (hn : l.length < 6 ∨ (Cd.val (l.take 6) : Int) < least ∨ most < (Cd.val (l.take 6) : Int)) :
    Calls Try.prog 36 #[.pointer (some ⟨p, 0, none⟩), .int .i64 least, .int .i64 most] w fun e w' => e = .returned (.int .i64 0) ∧ RdAt w' p g o [] true ∧ Only [p] w w' := by
  have HS : ∀ W, W = w → Calls Try.prog 49 #[.pointer (some ⟨p, 0, none⟩)] W fun e w' => e = .returned (.tuple #[]) ∧ Hid (RdAt w' p g o [] true) ∧ Hid (Only [p] w w') := by
    rintro W rfl
    exact spoil_any W p g o l bad h
  obtain ⟨k1, k2, k3, sl, k4, k5⟩ := h
  have c0 : w.cell? ⟨p, 0, none⟩ = some sl := by rw [cell_of_row _ _ _ _ _ _ k4]; rfl
  have hsl : ∃ q c, sl = .slice q l.length c ∧ l.length ≤ c := by
    rcases k5 with ⟨q, c, rfl, rfl⟩ | ⟨c, rfl, hc, _⟩
    · exact ⟨_, _, rfl, Nat.zero_le _⟩
    · exact ⟨_, _, rfl, hc⟩
  have HJ : Hid (6 ≤ l.length → ∃ c, sl = .slice (some ⟨g, o, none⟩) l.length c ∧ l.length ≤ c ∧ ∀ W, W = w → Calls Try.prog 48 #[.slice (some ⟨g, o, none⟩) 6 c] W fun e w' => e = .returned (.int .i64 (Cd.val (l.take 6) : Nat)) ∧ w' = w) := by
    intro hl
    rcases k5 with ⟨q, c, rfl, rfl⟩ | ⟨c, rfl, hc, k6⟩
    · exact absurd hl (by simp)
    · refine ⟨c, rfl, hc, ?_⟩
      rintro W rfl
      have := joined_any (l.take 6) g o c W (by rw [List.length_take]; omega) (fun x hx => k1 x (List.mem_of_mem_take hx)) (range_take k6 6)
      rw [List.length_take, Nat.min_eq_left hl] at this
      exact this
  clear k1 k4 k5 k3
  generalize Cd.val (l.take 6) = n at *
  generalize l.length = m at *
  obtain ⟨q, c, rfl, hmc⟩ := hsl
  go_enter Try.func36, Try.ntmps36
  go_wp2_with fail
  refine wp_scope_jumps 0 (lackJ p 38 w) (fun _ _ => 0) rfl ?_ ?_
  · by_cases hm : m < 6
    · have m6 : (m : Int) < 6 := by omega
      go_wp2_with fail
      go_step3
      exact ⟨rfl, rfl, _, rfl, rfl⟩
    · obtain ⟨c', e, _, HC⟩ := HJ.out (by omega)
      cases e
      have m6 : (6 : Int) ≤ (m : Int) := by omega
      have mc : (m : Int) ≤ (c : Int) := by omega
      by_cases h1 : (n : Int) < least
      · go_wp2_with (first | (go_at_call 48; refine (HC _ rfl).mono ?_; rintro e w1 ⟨rfl, rfl⟩))
        go_step3
        exact ⟨rfl, rfl, _, rfl, rfl⟩
      · have h2 : most < (n : Int) := by omega
        go_wp2_with (first | (go_at_call 48; refine (HC _ rfl).mono ?_; rintro e w1 ⟨rfl, rfl⟩))
        go_step3
        exact ⟨rfl, rfl, _, rfl, rfl⟩
  · rintro a' w' ⟨rfl, l0, h0, rfl⟩
    obtain ⟨x1, l1, rfl, h1⟩ := cons_of l0 h0
    obtain ⟨x2, l2, rfl, h2⟩ := cons_of l1 h1
    obtain ⟨x3, l3, rfl, h3⟩ := cons_of l2 h2
    obtain ⟨x4, l4, rfl, h4⟩ := cons_of l3 h3
    obtain ⟨x5, l5, rfl, h5⟩ := cons_of l4 h4
    obtain ⟨x6, l6, rfl, h6⟩ := cons_of l5 h5
    obtain ⟨x7, l7, rfl, h7⟩ := cons_of l6 h6
    obtain ⟨x8, l8, rfl, h8⟩ := cons_of l7 h7
    obtain ⟨x9, l9, rfl, h9⟩ := cons_of l8 h8
    obtain ⟨x10, l10, rfl, h10⟩ := cons_of l9 h9
    obtain ⟨x11, l11, rfl, h11⟩ := cons_of l10 h10
    obtain ⟨x12, l12, rfl, h12⟩ := cons_of l11 h11
    obtain ⟨x13, l13, rfl, h13⟩ := cons_of l12 h12
    obtain ⟨x14, l14, rfl, h14⟩ := cons_of l13 h13
    obtain ⟨x15, l15, rfl, h15⟩ := cons_of l14 h14
    obtain ⟨x16, l16, rfl, h16⟩ := cons_of l15 h15
    obtain ⟨x17, l17, rfl, h17⟩ := cons_of l16 h16
    obtain ⟨x18, l18, rfl, h18⟩ := cons_of l17 h17
    obtain ⟨x19, l19, rfl, h19⟩ := cons_of l18 h18
    obtain ⟨x20, l20, rfl, h20⟩ := cons_of l19 h19
    obtain ⟨x21, l21, rfl, h21⟩ := cons_of l20 h20
    obtain ⟨x22, l22, rfl, h22⟩ := cons_of l21 h21
    obtain ⟨x23, l23, rfl, h23⟩ := cons_of l22 h22
    obtain ⟨x24, l24, rfl, h24⟩ := cons_of l23 h23
    obtain ⟨x25, l25, rfl, h25⟩ := cons_of l24 h24
    obtain ⟨x26, l26, rfl, h26⟩ := cons_of l25 h25
    obtain ⟨x27, l27, rfl, h27⟩ := cons_of l26 h26
    obtain ⟨x28, l28, rfl, h28⟩ := cons_of l27 h27
    obtain ⟨x29, l29, rfl, h29⟩ := cons_of l28 h28
    obtain ⟨x30, l30, rfl, h30⟩ := cons_of l29 h29
    obtain ⟨x31, l31, rfl, h31⟩ := cons_of l30 h30
    obtain ⟨x32, l32, rfl, h32⟩ := cons_of l31 h31
    obtain ⟨x33, l33, rfl, h33⟩ := cons_of l32 h32
    obtain ⟨x34, l34, rfl, h34⟩ := cons_of l33 h33
    obtain ⟨x35, l35, rfl, h35⟩ := cons_of l34 h34
    obtain ⟨x36, l36, rfl, h36⟩ := cons_of l35 h35
    obtain ⟨x37, l37, rfl, h37⟩ := cons_of l36 h36
    obtain ⟨x38, l38, rfl, h38⟩ := cons_of l37 h37
    obtain rfl := List.eq_nil_of_length_eq_zero h38
    go_wp2_with (first | (go_at_call 49; refine (HS _ rfl).mono ?_; rintro e w1 ⟨rfl, HR1, HO1⟩))
    simp only [Exit.jump]
    go_ret
    exact ⟨rfl, HR1.out, HO1.out⟩
end Go.Proofs.Ytchoiioeeepoaaa.C8
