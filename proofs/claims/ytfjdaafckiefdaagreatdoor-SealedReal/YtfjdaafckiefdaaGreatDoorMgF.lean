/- The contracts of the document's reader: get, Num, Text, End. -/
import Derived.Test.YtfjdaafckiefdaaGreatDoorMgC
import Derived.Deep.QuietTactic
import Derived.BigQuiet
import Derived.Laws.MakeOwn
namespace Go.Proofs.YtfjdaafckiefdaaGreatDoor.C8
open Go.RowKit
/-- The document's reader. -/
def RfAt (w : World) (q : Nat) (sv : Value) (at_ : Nat) (bad : Bool) : Prop := w.heap[q]? = some (.cells #[sv, .int .i64 (at_ : Int), .bool bad] 86 (0, 0))
section
variable {w w' : World} {q at_ : Nat} {sv : Value} {bad : Bool}
theorem RfAt.lt (h : RfAt w q sv at_ bad) : q < w.heap.size := (Array.getElem?_eq_some_iff.1 h).1
theorem RfAt.below (h : RfAt w q sv at_ bad) (hb : Below w.heap.size w w') : RfAt w' q sv at_ bad := (hb.block q h.lt).trans h
theorem RfAt.only {bs : List Nat} (h : RfAt w q sv at_ bad) (hb : Only bs w w') (hq : q ∉ bs) : RfAt w' q sv at_ bad := (hb.block q h.lt hq).trans h
theorem RfAt.cells (h : RfAt w q sv at_ bad) : w.cell? ⟨q, 0, none⟩ = some sv ∧ w.cell? ⟨q, 1, none⟩ = some (.int .i64 (at_ : Int)) ∧ w.cell? ⟨q, 2, none⟩ = some (.bool bad) ∧ w.frozen? ⟨q, 1, none⟩ = false ∧ w.frozen? ⟨q, 2, none⟩ = false :=
  ⟨by rw [cell_of_row _ _ _ _ _ _ h]; rfl, by rw [cell_of_row _ _ _ _ _ _ h]; rfl, by rw [cell_of_row _ _ _ _ _ _ h]; rfl, frozen_of_row _ _ _ _ _ h, frozen_of_row _ _ _ _ _ h⟩
theorem RfAt.spoil (h : RfAt w q sv at_ bad) : RfAt (w.setCell ⟨q, 2, none⟩ (.bool true)) q sv at_ true := heap_setCell_same w q 2 _ 86 (.bool true) h
theorem RfAt.move (h : RfAt w q sv at_ bad) (n : Nat) : RfAt (w.setCell ⟨q, 1, none⟩ (.int .i64 (n : Int))) q sv n bad := heap_setCell_same w q 1 _ 86 (.int .i64 (n : Int)) h
theorem RfAt.drewN (h : RfAt w q sv at_ bad) (k : Nat) : RfAt (w.drewN k) q sv at_ bad := h
end
set_option maxHeartbeats 2000000 in
theorem get_bad (w : World) (q at_ k : Nat) (pa : Option Addr) (m c : Nat) (h : RfAt w q (.slice pa m c) at_ true) :
    Calls Tryz.prog 95 #[.pointer (some ⟨q, 0, none⟩), .int .i64 (k : Int)] w fun e w' => e = .returned (.int .i64 0) ∧ RfAt w' q (.slice pa m c) at_ true ∧ Only [q] w w' := by
  have HR : Hid (RfAt w q (.slice pa m c) at_ true) := h
  obtain ⟨c0, c1, c2, f1, f2⟩ := h.cells
  clear h
  go_enter Tryz.func95, Tryz.ntmps95
  go_wp2_with fail
  go_quiet (fail)
  go_wp2_with fail
  go_ret
  exact ⟨rfl, (HR.out.drewN nq).spoil, (Only.drewN nq w [q]).trans (Only.setCell _ _ _ (by simp))⟩
set_option maxHeartbeats 2000000 in
theorem get_lack (w : World) (q at_ k : Nat) (pa : Option Addr) (m c : Nat) (h : RfAt w q (.slice pa m c) at_ false) (hm : m ≤ 100000) (ha : at_ ≤ m) (hk : m < at_ + k) (hk6 : k ≤ 6) :
    Calls Tryz.prog 95 #[.pointer (some ⟨q, 0, none⟩), .int .i64 (k : Int)] w fun e w' => e = .returned (.int .i64 0) ∧ RfAt w' q (.slice pa m c) at_ true ∧ Only [q] w w' := by
  have HR : Hid (RfAt w q (.slice pa m c) at_ false) := h
  obtain ⟨c0, c1, c2, f1, f2⟩ := h.cells
  have hd : decide ((m : Int) - (at_ : Int) < (k : Int)) = true := by simp; omega
  have m1 : (m : Int) ≤ 100000 := by omega
  have m2 : (at_ : Int) ≤ (m : Int) := by omega
  clear h
  go_enter Tryz.func95, Tryz.ntmps95
  go_wp2_with fail
  go_quiet (fail)
  go_wp2_with fail
  go_ret
  exact ⟨rfl, (HR.out.drewN nq).spoil, (Only.drewN nq w [q]).trans (Only.setCell _ _ _ (by simp))⟩
theorem mul_byte {a x : Nat} : (256 : Int) * (a : Int) + (x : Int) = ((a * 256 + x : Nat) : Int) := by omega
set_option maxHeartbeats 4000000 in
theorem get_ok (w : World) (q at_ k : Nat) (b o m c : Nat) (l : List Nat) (h : RfAt w q (.slice (some ⟨b, o, none⟩) m c) at_ false) (hl : l.length = m) (hs : ∀ x ∈ l, x < 256) (hr : w.rangeAt b o (ints .u8 l)) (hm : m ≤ 100000) (hk : at_ + k ≤ m) (hk6 : k ≤ 6) :
    Calls Tryz.prog 95 #[.pointer (some ⟨q, 0, none⟩), .int .i64 (k : Int)] w fun e w' => e = .returned (.int .i64 (Cd.val ((l.drop at_).take k) : Nat)) ∧ RfAt w' q (.slice (some ⟨b, o, none⟩) m c) (at_ + k) false ∧ Only [q] w w' := by
  have HR : Hid (RfAt w q (.slice (some ⟨b, o, none⟩) m c) at_ false) := h
  obtain ⟨c0, c1, c2, f1, f2⟩ := h.cells
  obtain ⟨d, HD⟩ : ∃ d, Hid ((l.drop at_).take k = d) := ⟨_, rfl⟩
  rw [HD.out]
  have hdl : d.length = k := by rw [← HD.out, List.length_take, List.length_drop]; omega
  have hds : ∀ x ∈ d, x < 256 := fun x hx => hs x (List.mem_of_mem_drop (List.mem_of_mem_take (by rw [HD.out]; exact hx)))
  have HV : Hid (∀ j, j < k → Cd.val (d.take (j + 1)) = Cd.val (d.take j) * 256 + Sp.nth d j) := fun j hj => val_take (by omega)
  have HL : Hid (∀ j, j < k → Cd.val (d.take j) < 36028797018963968) := fun j hj => by
    have h1 := Cd.val_lt (d.take j) (fun x hx => hds x (List.mem_of_mem_take hx))
    have h2 : (d.take j).length ≤ 5 := by rw [List.length_take]; omega
    exact Nat.lt_of_lt_of_le h1 (Nat.le_trans (Nat.pow_le_pow_right (by decide) h2) (by decide))
  have HC : Hid (∀ j, j < k → w.cell? ⟨b, o + (at_ + j), none⟩ = some (.int .u8 (Sp.nth d j : Nat))) := fun j hj => by
    have h1 := hr (at_ + j) _ (ints_get .u8 l (at_ + j) (by omega))
    rw [h1]
    have e : Sp.nth d j = Sp.nth l (at_ + j) := by rw [← HD.out, Sp.nth_take hj, Sp.nth_drop]
    rw [e]
  have HX : Hid (∀ j, j < k → Sp.nth d j < 256) := fun j _ => Sp.nth_lt (by decide) hds j
  have HE : Hid (d.take k = d) := List.take_of_length_le (by omega)
  have H0 : Hid (Cd.val (d.take 0) = 0) := rfl
  have hd : decide ((m : Int) - (at_ : Int) < (k : Int)) = false := by simp; omega
  have m1 : (m : Int) ≤ 100000 := by omega
  have m2 : (at_ : Int) + (k : Int) ≤ (m : Int) := by omega
  have m3 : (at_ : Int) ≤ (m : Int) := by omega
  have k6 : (k : Int) ≤ 6 := by omega
  clear h hl hs hr hdl hds
  go_enter Tryz.func95, Tryz.ntmps95
  go_wp2_with fail
  go_quiet (fail)
  go_wp2_with fail
  clear hd
  go_loopw [5, 6] (fun v i wr => ∃ j : Nat, j ≤ k ∧ i = .int .i64 j ∧ v = .int .i64 (Cd.val (d.take j) : Nat) ∧ ∃ nn, wr = w.drewN nn) (fun _ i _ => k - (intOf i).toNat)
  case atStart => exact ⟨0, by omega, rfl, by rw [H0.out]; rfl, nq, rfl⟩
  case round =>
    obtain ⟨j, hj, rfl, rfl, nn, rfl⟩ := hrel
    by_cases hlt : j < k
    · have hx := HX.out j hlt
      have hcell := HC.out j hlt
      have hv := HL.out j hlt
      have HNH : Hid (Cd.val (d.take (j + 1)) = Cd.val (d.take j) * 256 + Sp.nth d j) := HV.out j hlt
      generalize Cd.val (d.take j) = a at *
      generalize Sp.nth d j = x at *
      have k1 : (j : Int) < (k : Int) := by omega
      have k0 : (0 : Int) ≤ (j : Int) := by omega
      have k2 : (at_ : Int) + (j : Int) < (m : Int) := by omega
      have t0 : ((at_ : Int) + (j : Int)).toNat = at_ + j := by omega
      have a1 : (a : Int) < 36028797018963968 := by omega
      have x1 : (x : Int) < 256 := by omega
      go_wp2_with fail
      go_quiet (fail)
      go_wp2_with fail
      go_roundw
      case rel =>
        exact ⟨j + 1, by omega, by go_num, by rw [HNH.out, mul_byte], nn + nq, by first | rfl | simp⟩
      case measure => simp [intOf]; omega
    · obtain rfl : j = k := by omega
      have k1 : ¬ (j : Int) < (j : Int) := by omega
      rw [HE.out]
      clear HE HV HL H0 HX HC
      go_wp2_with fail
      go_ret
      refine ⟨rfl, ?_, (Only.drewN nn w [q]).trans (Only.setCell _ _ _ (by simp))⟩
      exact (HR.out.drewN nn).move (at_ + j)
end Go.Proofs.YtfjdaafckiefdaaGreatDoor.C8
/- The contracts of the document's reader: Num, Text, End. -/
namespace Go.Proofs.YtfjdaafckiefdaaGreatDoor.C8
open Go.RowKit
theorem Src.full {w : World} {v : Value} {l : List Nat} (h : Src w v l) (h0 : 0 < l.length) : ∃ b o c, v = .slice (some ⟨b, o, none⟩) l.length c ∧ l.length ≤ c ∧ w.rangeAt b o (ints .u8 l) := by
  obtain ⟨_, ⟨_, rfl⟩ | ⟨_, _, _, rfl⟩ | h1⟩ := h
  · exact absurd h0 (by simp)
  · exact absurd h0 (by simp)
  · exact h1
theorem get_any (w : World) (q at_ k : Nat) (sv : Value) (l : List Nat) (h : RfAt w q sv at_ false) (hs : Src w sv l) (hm : l.length ≤ 100000) (hk : at_ + k ≤ l.length) (hk1 : 0 < k) (hk6 : k ≤ 6) :
    Calls Tryz.prog 95 #[.pointer (some ⟨q, 0, none⟩), .int .i64 (k : Int)] w fun e w' => e = .returned (.int .i64 (Cd.val ((l.drop at_).take k) : Nat)) ∧ RfAt w' q sv (at_ + k) false ∧ Only [q] w w' := by
  obtain ⟨b, o, c, rfl, hc, hr⟩ := hs.full (by omega)
  exact get_ok w q at_ k b o l.length c l h rfl hs.small hr hm hk hk6
theorem get_none (w : World) (q at_ k : Nat) (sv : Value) (l : List Nat) (bad : Bool) (h : RfAt w q sv at_ bad) (hs : Src w sv l) (hm : l.length ≤ 100000) (ha : at_ ≤ l.length) (hk6 : k ≤ 6) (hb : bad = true ∨ l.length < at_ + k) :
    Calls Tryz.prog 95 #[.pointer (some ⟨q, 0, none⟩), .int .i64 (k : Int)] w fun e w' => e = .returned (.int .i64 0) ∧ RfAt w' q sv at_ true ∧ Only [q] w w' := by
  obtain ⟨pa, c, rfl, -⟩ := hs.slice
  cases bad with
  | true => exact get_bad w q at_ k pa l.length c h
  | false => exact get_lack w q at_ k pa l.length c h hm ha (by rcases hb with h | h; cases h; exact h) hk6
set_option maxHeartbeats 2000000 in
theorem RNum_ok (w : World) (q at_ : Nat) (sv : Value) (l : List Nat) (least most : Int) (n : Nat) (h : RfAt w q sv at_ false) (hs : Src w sv l) (hm : l.length ≤ 100000) (hk : at_ + 6 ≤ l.length) (hn : Cd.val ((l.drop at_).take 6) = n) (h1 : least ≤ (n : Int)) (h2 : (n : Int) ≤ most) :
    Calls Tryz.prog 51 #[.pointer (some ⟨q, 0, none⟩), .int .i64 least, .int .i64 most] w fun e w' => e = .returned (.int .i64 (n : Int)) ∧ RfAt w' q sv (at_ + 6) false ∧ Only [q] w w' := by
  have HC : ∀ W, W = w → Calls Tryz.prog 95 #[.pointer (some ⟨q, 0, none⟩), .int .i64 6] W fun e w' => e = .returned (.int .i64 (n : Int)) ∧ RfAt w' q sv (at_ + 6) false ∧ Only [q] w w' := by
    rintro W rfl
    have := get_any W q at_ 6 sv l h hs hm hk (by decide) (by decide)
    rwa [hn] at this
  clear h hs hm hk hn
  go_enter Tryz.func51, Tryz.ntmps51
  go_wp2_with (go_at_call 95; refine (HC _ rfl).mono ?_; rintro e w1 ⟨rfl, r1, o1⟩; obtain ⟨d0, d1, d2, -, -⟩ := r1.cells; have R1 : Hid (RfAt w1 q sv (at_ + 6) false) := r1; have O1 : Hid (Only [q] w w1) := o1; clear r1 o1)
  go_ret
  exact ⟨rfl, R1.out, O1.out⟩
set_option maxHeartbeats 2000000 in
theorem RNum_none (w : World) (q at_ : Nat) (sv : Value) (l : List Nat) (bad : Bool) (least most : Int) (h : RfAt w q sv at_ bad) (hs : Src w sv l) (hm : l.length ≤ 100000) (ha : at_ ≤ l.length) (hb : bad = true ∨ l.length < at_ + 6) :
    Calls Tryz.prog 51 #[.pointer (some ⟨q, 0, none⟩), .int .i64 least, .int .i64 most] w fun e w' => e = .returned (.int .i64 0) ∧ RfAt w' q sv at_ true ∧ Only [q] w w' := by
  have HC : ∀ W, W = w → Calls Tryz.prog 95 #[.pointer (some ⟨q, 0, none⟩), .int .i64 6] W fun e w' => e = .returned (.int .i64 0) ∧ RfAt w' q sv at_ true ∧ Only [q] w w' := by
    rintro W rfl
    exact get_none W q at_ 6 sv l bad h hs hm ha (by decide) hb
  clear h hs hm ha hb
  go_enter Tryz.func51, Tryz.ntmps51
  go_wp2_with (go_at_call 95; refine (HC _ rfl).mono ?_; rintro e w1 ⟨rfl, r1, o1⟩; obtain ⟨d0, d1, d2, -, g2⟩ := r1.cells; have R1 : Hid (RfAt w1 q sv at_ true) := r1; have O1 : Hid (Only [q] w w1) := o1; clear r1 o1)
  go_ret
  exact ⟨rfl, R1.out.spoil, O1.out.trans (Only.setCell _ _ _ (by simp))⟩
set_option maxHeartbeats 2000000 in
theorem RNum_out (w : World) (q at_ : Nat) (sv : Value) (l : List Nat) (least most : Int) (n : Nat) (h : RfAt w q sv at_ false) (hs : Src w sv l) (hm : l.length ≤ 100000) (hk : at_ + 6 ≤ l.length) (hn : Cd.val ((l.drop at_).take 6) = n) (hb : (n : Int) < least ∨ most < (n : Int)) :
    Calls Tryz.prog 51 #[.pointer (some ⟨q, 0, none⟩), .int .i64 least, .int .i64 most] w fun e w' => e = .returned (.int .i64 0) ∧ RfAt w' q sv (at_ + 6) true ∧ Only [q] w w' := by
  have HC : ∀ W, W = w → Calls Tryz.prog 95 #[.pointer (some ⟨q, 0, none⟩), .int .i64 6] W fun e w' => e = .returned (.int .i64 (n : Int)) ∧ RfAt w' q sv (at_ + 6) false ∧ Only [q] w w' := by
    rintro W rfl
    have := get_any W q at_ 6 sv l h hs hm hk (by decide) (by decide)
    rwa [hn] at this
  clear h hs hm hk hn
  by_cases h1 : (n : Int) < least
  all_goals
    have h2 : (n : Int) < least ∨ most < (n : Int) := hb
    clear hb
    first
      | (have h3 : most < (n : Int) := (by omega); clear h2)
      | clear h2
    go_enter Tryz.func51, Tryz.ntmps51
    go_wp2_with (go_at_call 95; refine (HC _ rfl).mono ?_; rintro e w1 ⟨rfl, r1, o1⟩; obtain ⟨d0, d1, d2, -, g2⟩ := r1.cells; have R1 : Hid (RfAt w1 q sv (at_ + 6) false) := r1; have O1 : Hid (Only [q] w w1) := o1; clear r1 o1)
    go_ret
    exact ⟨rfl, R1.out.spoil, O1.out.trans (Only.setCell _ _ _ (by simp))⟩
set_option maxHeartbeats 4000000 in
theorem RText_ok (w : World) (q at_ : Nat) (sv : Value) (l : List Nat) (least most : Int) (n : Nat) (h : RfAt w q sv at_ false) (hs : Src w sv l) (ho : Off sv [q]) (hm : l.length ≤ 100000) (hk : at_ + 2 + n ≤ l.length) (hn : Cd.val ((l.drop at_).take 2) = n) (h1 : least ≤ (n : Int)) (h2 : (n : Int) ≤ most) :
    Calls Tryz.prog 52 #[.pointer (some ⟨q, 0, none⟩), .int .i64 least, .int .i64 most] w fun e w' => ∃ v, e = .returned v ∧ v.ownBlock = sv.ownBlock ∧ Src w' v ((l.drop (at_ + 2)).take n) ∧ RfAt w' q sv (at_ + 2 + n) false ∧ Only [q] w w' := by
  have HC : ∀ W, W = w → Calls Tryz.prog 95 #[.pointer (some ⟨q, 0, none⟩), .int .i64 2] W fun e w' => e = .returned (.int .i64 (n : Int)) ∧ RfAt w' q sv (at_ + 2) false ∧ Only [q] w w' := by
    rintro W rfl
    have := get_any W q at_ 2 sv l h hs hm (by omega) (by decide) (by decide)
    rwa [hn] at this
  obtain ⟨b, o, c, rfl, hc, hr⟩ := hs.full (by omega)
  have HT : Hid (∀ w', Only [q] w w' → (∀ cc, Src w' (.slice (some ⟨b, o + (at_ + 2), none⟩) n (c - cc)) ((l.drop (at_ + 2)).take n) ∨ c - cc < n)) := fun w' hw cc => by
    by_cases hcc : c - cc < n
    · exact .inr hcc
    · refine .inl (Src.row (fun x hx => hs.small x (List.mem_of_mem_drop (List.mem_of_mem_take hx))) ?_ ?_ ?_)
      · rw [List.length_take, List.length_drop]; omega
      · refine range_take (range_drop (range_kept hr (hw.block b (range_lt hr ?_) (ho b rfl))) (at_ + 2)) n
        intro e
        have := congrArg List.length e
        rw [ints_length, List.length_nil] at this
        omega
      · rw [List.length_take, List.length_drop]; omega
  have HT0 : Hid (∀ w', n = 0 → ∀ ad cc, Src w' (.slice (some ad) 0 cc) ((l.drop (at_ + 2)).take n)) := fun w' h0 ad cc => by
    subst h0
    rw [List.take_zero]
    exact ⟨fun x hx => (by cases hx), .inr (.inl ⟨ad, cc, rfl, rfl⟩)⟩
  generalize (l.drop (at_ + 2)).take n = tx at *
  generalize l.length = m at *
  clear h hs ho hn hr
  have m1 : (m : Int) ≤ 100000 := by omega
  have m2 : (at_ : Int) + 2 + (n : Int) ≤ (m : Int) := by omega
  have mc : (m : Int) ≤ (c : Int) := by omega
  have a0 : (0 : Int) ≤ (at_ : Int) := by omega
  have n0 : (0 : Int) ≤ (n : Int) := by omega
  have hd1 : decide ((n : Int) < least) = false := by simp; omega
  have hd2 : decide (most < (n : Int)) = false := by simp; omega
  have hd3 : decide ((m : Int) - ((at_ : Int) + 2) < (n : Int)) = false := by simp; omega
  go_enter Tryz.func52, Tryz.ntmps52
  go_wp2_with (go_at_call 95; refine (HC _ rfl).mono ?_; rintro e w1 ⟨rfl, r1, o1⟩; obtain ⟨d0, d1, d2, g1, g2⟩ := r1.cells; have R1 : Hid (RfAt w1 q (.slice (some ⟨b, o, none⟩) m c) (at_ + 2) false) := r1; have O1 : Hid (Only [q] w w1) := o1; clear r1 o1)
  go_quiet (fail)
  go_wp2_with fail
  have e3 : (at_ : Int) + 2 + (n : Int) = ((at_ + 2 + n : Nat) : Int) := by omega
  rw [e3]
  have R2 : Hid (RfAt ((w1.drewN nq).setCell ⟨q, 1, none⟩ (.int .i64 ((at_ + 2 + n : Nat) : Int))) q (.slice (some ⟨b, o, none⟩) m c) (at_ + 2 + n) false) := (R1.out.drewN nq).move (at_ + 2 + n)
  have O2 : Hid (Only [q] w ((w1.drewN nq).setCell ⟨q, 1, none⟩ (.int .i64 ((at_ + 2 + n : Nat) : Int)))) := (O1.out.trans (Only.drewN nq w1 [q])).trans (Only.setCell _ _ _ (by simp))
  clear R1 O1 d0 d1 d2 g1 g2 hd1 hd2 hd3 e3
  generalize (w1.drewN nq).setCell ⟨q, 1, none⟩ (.int .i64 ((at_ + 2 + n : Nat) : Int)) = w2 at *
  obtain ⟨d0, d1, d2, -, -⟩ := R2.out.cells
  obtain ⟨hi, HI⟩ : ∃ hi, Hid (at_ + 2 + n = hi) := ⟨_, rfl⟩
  rw [HI.out] at R2 d1 ⊢
  have s1 : (hi : Int) - (n : Int) = ((at_ + 2 : Nat) : Int) := by have := HI.out; omega
  obtain ⟨lo, HLO⟩ : ∃ lo, Hid (at_ + 2 = lo) := ⟨_, rfl⟩
  rw [HLO.out] at s1
  have s2 : (lo : Int) ≤ (hi : Int) := by have := HI.out; have := HLO.out; omega
  have s3 : (hi : Int) ≤ (c : Int) := by have := HI.out; omega
  have s4 : (0 : Int) ≤ (lo : Int) := by omega
  have s5 : (hi : Int) ≤ 100000 := by have := HI.out; omega
  have HHI : Hid (hi = lo + n ∧ hi ≤ c) := ⟨by have := HI.out; have := HLO.out; omega, by have := HI.out; omega⟩
  clear m1 m2 mc a0 h1 h2
  have hfin : ∀ W v, W = w2.drewN 0 ∨ True → Only [q] w W → RfAt W q (.slice (some ⟨b, o, none⟩) m c) hi false → v.ownBlock = some b → Src W v tx → ∃ v', Ending.returned v = .returned v' ∧ v'.ownBlock = (Value.slice (some ⟨b, o, none⟩) m c).ownBlock ∧ Src W v' tx ∧ RfAt W q (.slice (some ⟨b, o, none⟩) m c) (at_ + 2 + n) false ∧ Only [q] w W :=
    fun W v _ h1 h2 h4 h3 => ⟨v, rfl, h4, h3, HI.out ▸ h2, h1⟩
  by_cases hcl : c = lo
  · have hn0 : n = 0 := by have := HHI.out; omega
    have HF : Hid (∀ W v, Only [q] w W → RfAt W q (.slice (some ⟨b, o, none⟩) m c) hi false → v.ownBlock = some b → Src W v tx → ∃ v', Ending.returned v = .returned v' ∧ v'.ownBlock = (Value.slice (some ⟨b, o, none⟩) m c).ownBlock ∧ Src W v' tx ∧ RfAt W q (.slice (some ⟨b, o, none⟩) m c) (at_ + 2 + n) false ∧ Only [q] w W) := fun W v => hfin W v (.inr trivial)
    have HN0 : Hid (n = 0) := hn0
    clear hfin hn0
    go_quiet (fail)
    go_wp2_with fail
    all_goals
      go_ret
      refine HF.out _ _ (O2.out.trans (Only.drewN _ _ _)) (R2.out.drewN _) rfl ?_
      show Src _ (.slice (some ⟨b, o, none⟩) (hi - lo) 0) tx
      rw [show hi - lo = 0 from by have := HHI.out; have := HN0.out; omega]
      exact HT0.out _ HN0.out _ _
  · have HF : Hid (∀ W v, Only [q] w W → RfAt W q (.slice (some ⟨b, o, none⟩) m c) hi false → v.ownBlock = some b → Src W v tx → ∃ v', Ending.returned v = .returned v' ∧ v'.ownBlock = (Value.slice (some ⟨b, o, none⟩) m c).ownBlock ∧ Src W v' tx ∧ RfAt W q (.slice (some ⟨b, o, none⟩) m c) (at_ + 2 + n) false ∧ Only [q] w W) := fun W v => hfin W v (.inr trivial)
    clear hfin
    go_quiet (fail)
    go_wp2_with fail
    all_goals
      go_ret
      refine HF.out _ _ (O2.out.trans (Only.drewN _ _ _)) (R2.out.drewN _) rfl ?_
      show Src _ (.slice (some ⟨b, o + lo, none⟩) (hi - lo) (c - lo)) tx
      rw [show hi - lo = n from by have := HHI.out; omega, ← HLO.out]
      rcases HT.out _ (O2.out.trans (Only.drewN nq w2 [q])) (at_ + 2) with h | h
      · exact h
      · have := HHI.out; have := HLO.out; omega
set_option maxHeartbeats 4000000 in
theorem RText_none (w : World) (q at_ : Nat) (sv : Value) (l : List Nat) (bad : Bool) (least most : Int) (h : RfAt w q sv at_ bad) (hs : Src w sv l) (hm : l.length ≤ 100000) (ha : at_ ≤ l.length) (hb : bad = true ∨ l.length < at_ + 2) :
    Calls Tryz.prog 52 #[.pointer (some ⟨q, 0, none⟩), .int .i64 least, .int .i64 most] w fun e w' => e = .returned (.slice none 0 0) ∧ RfAt w' q sv at_ true ∧ Only [q] w w' := by
  have HC : ∀ W, W = w → Calls Tryz.prog 95 #[.pointer (some ⟨q, 0, none⟩), .int .i64 2] W fun e w' => e = .returned (.int .i64 0) ∧ RfAt w' q sv at_ true ∧ Only [q] w w' := by
    rintro W rfl
    exact get_none W q at_ 2 sv l bad h hs hm ha (by decide) hb
  obtain ⟨pa, c, rfl, -⟩ := hs.slice
  clear h hs hm ha hb
  go_enter Tryz.func52, Tryz.ntmps52
  go_wp2_with (go_at_call 95; refine (HC _ rfl).mono ?_; rintro e w1 ⟨rfl, r1, o1⟩; obtain ⟨d0, d1, d2, -, g2⟩ := r1.cells; have R1 : Hid (RfAt w1 q (.slice pa l.length c) at_ true) := r1; have O1 : Hid (Only [q] w w1) := o1; clear r1 o1)
  go_quiet (fail)
  go_wp2_with fail
  go_ret
  exact ⟨rfl, (R1.out.drewN nq).spoil, (O1.out.trans (Only.drewN nq w1 [q])).trans (Only.setCell _ _ _ (by simp))⟩
set_option maxHeartbeats 4000000 in
theorem RText_out (w : World) (q at_ : Nat) (sv : Value) (l : List Nat) (least most : Int) (n : Nat) (h : RfAt w q sv at_ false) (hs : Src w sv l) (hm : l.length ≤ 100000) (hk : at_ + 2 ≤ l.length) (hn : Cd.val ((l.drop at_).take 2) = n) (hb : (n : Int) < least ∨ most < (n : Int) ∨ l.length < at_ + 2 + n) :
    Calls Tryz.prog 52 #[.pointer (some ⟨q, 0, none⟩), .int .i64 least, .int .i64 most] w fun e w' => e = .returned (.slice none 0 0) ∧ RfAt w' q sv (at_ + 2) true ∧ Only [q] w w' := by
  have HC : ∀ W, W = w → Calls Tryz.prog 95 #[.pointer (some ⟨q, 0, none⟩), .int .i64 2] W fun e w' => e = .returned (.int .i64 (n : Int)) ∧ RfAt w' q sv (at_ + 2) false ∧ Only [q] w w' := by
    rintro W rfl
    have := get_any W q at_ 2 sv l h hs hm hk (by decide) (by decide)
    rwa [hn] at this
  obtain ⟨pa, c, rfl, -⟩ := hs.slice
  generalize l.length = m at *
  clear h hs hn
  have m1 : (m : Int) ≤ 100000 := by omega
  have m2 : (at_ : Int) + 2 ≤ (m : Int) := by omega
  have a0 : (0 : Int) ≤ (at_ : Int) := by omega
  by_cases h1 : (n : Int) < least
  · have hd1 : decide ((n : Int) < least) = true := by simpa using h1
    clear hb h1
    go_enter Tryz.func52, Tryz.ntmps52
    go_wp2_with (go_at_call 95; refine (HC _ rfl).mono ?_; rintro e w1 ⟨rfl, r1, o1⟩; obtain ⟨d0, d1, d2, -, g2⟩ := r1.cells; have R1 : Hid (RfAt w1 q (.slice pa m c) (at_ + 2) false) := r1; have O1 : Hid (Only [q] w w1) := o1; clear r1 o1)
    go_quiet (fail)
    go_wp2_with fail
    go_ret
    exact ⟨rfl, (R1.out.drewN nq).spoil, (O1.out.trans (Only.drewN nq w1 [q])).trans (Only.setCell _ _ _ (by simp))⟩
  · have hd1 : decide ((n : Int) < least) = false := by simpa using h1
    by_cases h2 : most < (n : Int)
    · have hd2 : decide (most < (n : Int)) = true := by simpa using h2
      clear hb h1 h2
      go_enter Tryz.func52, Tryz.ntmps52
      go_wp2_with (go_at_call 95; refine (HC _ rfl).mono ?_; rintro e w1 ⟨rfl, r1, o1⟩; obtain ⟨d0, d1, d2, -, g2⟩ := r1.cells; have R1 : Hid (RfAt w1 q (.slice pa m c) (at_ + 2) false) := r1; have O1 : Hid (Only [q] w w1) := o1; clear r1 o1)
      go_quiet (fail)
      go_wp2_with fail
      go_ret
      exact ⟨rfl, (R1.out.drewN nq).spoil, (O1.out.trans (Only.drewN nq w1 [q])).trans (Only.setCell _ _ _ (by simp))⟩
    · have hd2 : decide (most < (n : Int)) = false := by simpa using h2
      have hd3 : decide ((m : Int) - ((at_ : Int) + 2) < (n : Int)) = true := by simp; omega
      clear hb h1 h2
      go_enter Tryz.func52, Tryz.ntmps52
      go_wp2_with (go_at_call 95; refine (HC _ rfl).mono ?_; rintro e w1 ⟨rfl, r1, o1⟩; obtain ⟨d0, d1, d2, -, g2⟩ := r1.cells; have R1 : Hid (RfAt w1 q (.slice pa m c) (at_ + 2) false) := r1; have O1 : Hid (Only [q] w w1) := o1; clear r1 o1)
      go_quiet (fail)
      go_wp2_with fail
      go_ret
      exact ⟨rfl, (R1.out.drewN nq).spoil, (O1.out.trans (Only.drewN nq w1 [q])).trans (Only.setCell _ _ _ (by simp))⟩
set_option maxHeartbeats 2000000 in
theorem REnd_any (w : World) (q at_ : Nat) (sv : Value) (l : List Nat) (bad : Bool) (h : RfAt w q sv at_ bad) (hs : Src w sv l) :
    Calls Tryz.prog 53 #[.pointer (some ⟨q, 0, none⟩)] w fun e w' => e = .returned (.bool (!bad && decide (at_ = l.length))) ∧ ∃ k, w' = w.drewN k := by
  obtain ⟨d0, d1, d2, -, -⟩ := h.cells
  obtain ⟨pa, c, rfl, -⟩ := hs.slice
  generalize l.length = m at *
  clear h hs
  cases bad
  · by_cases hm : at_ = m
    · have m0 : ((at_ : Int) == (m : Int)) = true := by simp; omega
      have e0 : (!false && decide (at_ = m)) = true := by simp [hm]
      rw [e0]
      clear hm e0
      go_enter Tryz.func53, Tryz.ntmps53
      go_wp2_with fail
      go_quiet (fail)
      go_wp2_with fail
      go_ret
      exact ⟨rfl, nq, rfl⟩
    · have m0 : ((at_ : Int) == (m : Int)) = false := by simp; omega
      have e0 : (!false && decide (at_ = m)) = false := by simp [hm]
      rw [e0]
      clear hm e0
      go_enter Tryz.func53, Tryz.ntmps53
      go_wp2_with fail
      go_quiet (fail)
      go_wp2_with fail
      go_ret
      exact ⟨rfl, nq, rfl⟩
  · go_enter Tryz.func53, Tryz.ntmps53
    go_wp2_with fail
    go_quiet (fail)
    go_wp2_with fail
    go_ret
    exact ⟨rfl, nq, rfl⟩
end Go.Proofs.YtfjdaafckiefdaaGreatDoor.C8
/- The contracts of the document's Num and Text, and how a part is read. -/
namespace Go.Proofs.YtfjdaafckiefdaaGreatDoor.C8
open Go.RowKit
theorem law_make {ops : Array Oper} {rest : List Oper} {dst : Option Tmp} {T : TypeId} {pos : String} {after : Array Edge} {a : Act} {w : World} {Q : Exit → Act → World → Prop} {lo co : Operand}
    (base n c : Nat) (hl : a.eval lo = .int .i64 (n : Int)) (hc : a.eval co = .int .i64 (c : Int)) (hnc : n ≤ c) (hm : c ≤ 100000) (hbase : base ≤ w.heap.size)
    (h : ∀ w', w'.ownsRow base 5 1 (.slice (some ⟨w.heap.size, 0, none⟩) n c) n (ints .u8 (List.replicate n 0)) → w.grownBy w' none → wpList Tryz.prog ops Q rest (a.put dst (.slice (some ⟨w.heap.size, 0, none⟩) n c)) w') :
    wpList Tryz.prog ops Q ({ dst := dst, op := .makeSlice 22 lo co, type := T, pos := pos, after := after, guard := none } :: rest) a w := by
  obtain ⟨i, hi, hsz, hby, hz⟩ := info5e
  have hr := run_make (P := Tryz.prog) w 22 5 i _ Tryz.underlying22 hi hz .i64 .i64 (n : Int) (c : Int) (by omega) (by omega) (by rw [hby]; omega) (by omega)
  simp only [Int.toNat_natCast, hsz, Nat.mul_one] at hr
  have e : (Value.int IntKind.u8 0).cells = #[.int .u8 0] := rfl
  rw [e, made_zeros] at hr
  have hw := h (w.alloc (.cells (arr .u8 (List.replicate c 0)) 5)) ⟨by simp [ints], .inr ⟨w.heap.size, c, arr .u8 (List.replicate c 0), rfl, hbase, heap_alloc_new w _, hnc, by unfold maxLen; omega, by rw [arr_size, List.length_replicate, Nat.mul_one], by
    rw [arr_list, Nat.mul_one]
    simp [ints, Nat.min_eq_left hnc]⟩⟩ (grownBy_alloc w _ none)
  refine wpList_plain rfl fun K' hK' => ?_
  unfold Oper.wp
  simp [execOp, hl, hc, hr, Result.andThen]
  exact hK' _ _ hw
theorem stop_make {P : Program} {ops : Array Oper} {rest : List Oper} {dst : Option Tmp} {T : TypeId} {pos : String} {after : Array Edge} {a : Act} {w : World} {Q : Exit → Act → World → Prop} (ty : TypeId) {x y : Operand}
    (h : Stop (wpList P ops Q ({ dst := dst, op := .makeSlice ty x y, type := T, pos := pos, after := after, guard := none } :: rest) a w)) :
    wpList P ops Q ({ dst := dst, op := .makeSlice ty x y, type := T, pos := pos, after := after, guard := none } :: rest) a w := h
theorem own_set {w : World} {base g n c i y : Nat} {l : List Nat} (h : w.ownsRow base 5 1 (.slice (some ⟨g, 0, none⟩) n c) n (ints .u8 l)) : (w.setCell ⟨g, i, none⟩ (.int .u8 (y : Nat))).ownsRow base 5 1 (.slice (some ⟨g, 0, none⟩) n c) n (ints .u8 (l.set i y)) := by
  obtain ⟨h1, ⟨e, _⟩ | ⟨g', cap, cur, e, hb, hh, hn, hm, hs, ht⟩⟩ := h
  · cases e
  · cases e
    have hset := heap_setCell_same w g i cur 5 (.int .u8 (y : Nat)) hh
    refine ⟨by simpa [ints] using h1, .inr ⟨g, c, cur.setIfInBounds i (.int .u8 (y : Nat)), rfl, hb, hset, hn, hm, by simpa using hs, ?_⟩⟩
    rw [Array.toList_setIfInBounds, List.take_set, ht]
    simp [ints]
theorem own_may {w : World} {base g n c : Nat} {xs : List Value} (h : w.ownsRow base 5 1 (.slice (some ⟨g, 0, none⟩) n c) n xs) (i : Nat) : w.frozen? ⟨g, i, none⟩ = false := by
  obtain ⟨_, ⟨e, _⟩ | ⟨g', cap, cur, e, _, hh, _⟩⟩ := h
  · cases e
  · cases e
    exact frozen_of_row _ _ _ _ _ hh
theorem own_at {w : World} {base g n c : Nat} {l : List Nat} (h : w.ownsRow base 5 1 (.slice (some ⟨g, 0, none⟩) n c) n (ints .u8 l)) (i : Nat) (hi : i < n) : w.cell? ⟨g, i, none⟩ = some (.int .u8 (Sp.nth l i : Nat)) := by
  have hl : l.length = n := by have := h.1; rw [ints_length] at this; omega
  obtain ⟨g', c', e, _, _, _, hr⟩ := own_cell h (by omega)
  cases e
  have := hr i _ (ints_get .u8 l i (by omega))
  rwa [Nat.zero_add] at this
theorem num_set (E : List Nat) (hE : E.length = 6) (i x : Nat) (hi : i < 6) (hx : Sp.nth E i = x) : (List.replicate (i + 1) 0 ++ E.drop (i + 1)).set i x = List.replicate i 0 ++ E.drop i := by
  have h1 : E.drop i = x :: E.drop (i + 1) := by
    rw [List.drop_eq_getElem_cons (by omega), ← hx]
    simp [Sp.nth, hE, hi]
  rw [h1, List.replicate_succ', List.append_assoc, List.set_append_right _ _ (by simp)]
  simp
theorem div_div256 (n k : Nat) : n / 256 ^ k / 256 = n / 256 ^ (k + 1) := by rw [Nat.div_div_eq_div_mul, Nat.pow_succ]
set_option maxHeartbeats 2000000 in
theorem RefNum_any (n : Nat) (w : World) (hn : n ≤ 1099511627776) :
    Calls Tryz.prog 73 #[.int .i64 (n : Int)] w fun e w' => ∃ v, e = .returned v ∧ w'.ownsRow w.heap.size 5 1 v 6 (ints .u8 (Cd.be 6 n)) ∧ Below w.heap.size w w' := by
  have HEL : Hid ((Cd.be 6 n).length = 6) := Cd.be_length 6 n
  have HEN : Hid (∀ i, i < 6 → Sp.nth (Cd.be 6 n) i = n / 256 ^ (5 - i) % 256) := fun i hi => be_nth 6 i n hi
  obtain ⟨E, HE⟩ : ∃ E, Hid (Cd.be 6 n = E) := ⟨_, rfl⟩
  rw [HE.out] at HEL HEN ⊢
  have HLE : Hid (∀ k, n / 256 ^ k ≤ 1099511627776) := fun k => Nat.le_trans (Nat.div_le_self _ _) hn
  clear HE
  go_enter Tryz.func73, Tryz.ntmps73
  go_wp2_with (first | with_reducible (refine stop_make 22 ?_))
  refine Stop.go ?_
  refine law_make w.heap.size 6 6 rfl rfl (by decide) (by decide) (Nat.le_refl _) ?_
  intro w1 ho1 hg1
  have HO1 : Hid (w1.ownsRow w.heap.size 5 1 (.slice (some ⟨w.heap.size, 0, none⟩) 6 6) 6 (ints .u8 (List.replicate 6 0))) := ho1
  have HB1 : Hid (Below w.heap.size w w1) := (Below.refl w.heap.size w).grown hg1 (Nat.le_refl _) (fun k hk => by cases hk)
  clear ho1 hg1
  go_wp2_with fail
  go_loopw [0, 4] (fun m i wr => ∃ k : Nat, k ≤ 6 ∧ i = .int .i64 (5 - (k : Int)) ∧ m = .int .i64 ((n / 256 ^ k : Nat) : Int) ∧ Hid (wr.ownsRow w.heap.size 5 1 (.slice (some ⟨w.heap.size, 0, none⟩) 6 6) 6 (ints .u8 (List.replicate (6 - k) 0 ++ E.drop (6 - k)))) ∧ Hid (Below w.heap.size w wr)) (fun _ i _ => (intOf i + 1).toNat)
  case atStart =>
    have h0 : w1.ownsRow w.heap.size 5 1 (.slice (some ⟨w.heap.size, 0, none⟩) 6 6) 6 (ints .u8 (List.replicate (6 - 0) 0 ++ E.drop (6 - 0))) := by
      rw [List.drop_eq_nil_of_le (by rw [HEL.out]; omega), List.append_nil]
      exact HO1.out
    exact ⟨0, by omega, by simp, by simp, h0, HB1.out⟩
  case round =>
    obtain ⟨k, hk, rfl, rfl, HO, HB⟩ := hrel
    by_cases hlt : k < 6
    · obtain ⟨i, HI⟩ : ∃ i : Nat, Hid (i + k = 5) := ⟨5 - k, by show _ = _; omega⟩
      have ei : 5 - (k : Int) = (i : Int) := by have := HI.out; omega
      rw [ei]
      have hm := HLE.out k
      obtain ⟨x, HXX⟩ : ∃ x, Hid (n / 256 ^ k % 256 = x) := ⟨_, rfl⟩
      have HX : Hid (Sp.nth E i = x) := by
        have := HEN.out i (by have := HI.out; omega)
        rw [show 5 - i = k from by have := HI.out; omega, HXX.out] at this
        exact this
      have hxi : ((n / 256 ^ k : Nat) : Int) % 256 = (x : Int) := by rw [← HXX.out]; omega
      have HD : Hid (n / 256 ^ k / 256 = n / 256 ^ (k + 1)) := div_div256 n k
      have i5 : (i : Int) < 6 := by have := HI.out; omega
      have i0 : (0 : Int) ≤ (i : Int) := by omega
      have hc := own_at HO.out i (by have := HI.out; omega)
      have hf := own_may HO.out i
      have HEI : Hid ((i : Int) - 1 = 5 - ((k + 1 : Nat) : Int)) := by show _ = _; have := HI.out; omega
      have HO2 : Hid ((wr.setCell ⟨w.heap.size, i, none⟩ (.int .u8 (x : Int))).ownsRow w.heap.size 5 1 (.slice (some ⟨w.heap.size, 0, none⟩) 6 6) 6 (ints .u8 (List.replicate (6 - (k + 1)) 0 ++ E.drop (6 - (k + 1))))) := by
        have h1 := own_set (i := i) (y := x) HO.out
        rw [show 6 - k = i + 1 from by have := HI.out; omega, num_set E HEL.out i _ (by have := HI.out; omega) HX.out] at h1
        rw [show 6 - (k + 1) = i from by have := HI.out; omega]
        exact h1
      have HB2 : Hid (Below w.heap.size w (wr.setCell ⟨w.heap.size, i, none⟩ (.int .u8 (x : Int)))) := HB.out.setCell (Nat.le_refl _) _
      generalize n / 256 ^ k = m at *
      have HD2 : Hid (((m : Int) / 256) = ((n / 256 ^ (k + 1) : Nat) : Int)) := by show _ = _; rw [← HD.out]; omega
      clear HO HB HX HD ei HXX
      have m0 : (0 : Int) ≤ (m : Int) := by omega
      have m1 : (m : Int) ≤ 1099511627776 := by omega
      go_wp2_with fail
      go_roundw
      case rel =>
        first
          | exact ⟨k + 1, by omega, by rw [← HEI.out], by rw [← HD2.out], HO2.out, HB2.out⟩
          | ((repeat apply Exists.intro)
             refine ⟨⟨k + 1, by omega, ?_, ?_, HO2.out, HB2.out⟩, rfl⟩
             · rw [← HEI.out]
             · rw [← HD2.out])
      case measure => simp [intOf]
    · obtain rfl : k = 6 := by omega
      have HO6 : Hid (wr.ownsRow w.heap.size 5 1 (.slice (some ⟨w.heap.size, 0, none⟩) 6 6) 6 (ints .u8 E)) := HO.out
      clear HO
      have e0 : 5 - ((6 : Nat) : Int) = -1 := by omega
      rw [e0]
      clear e0
      go_wp2_with fail
      go_ret
      exact ⟨_, rfl, HO6.out, HB.out⟩
end Go.Proofs.YtfjdaafckiefdaaGreatDoor.C8
