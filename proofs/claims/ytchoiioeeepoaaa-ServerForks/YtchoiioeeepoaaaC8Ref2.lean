/- The contracts of the document's reader: Num, Text, End. -/
import Derived.Test.YtchoiioeeepoaaaC8Ref
namespace Go.Proofs.Ytchoiioeeepoaaa.C8
open Go.RowKit
theorem Src.full {w : World} {v : Value} {l : List Nat} (h : Src w v l) (h0 : 0 < l.length) : ∃ b o c, v = .slice (some ⟨b, o, none⟩) l.length c ∧ l.length ≤ c ∧ w.rangeAt b o (ints .u8 l) := by
  obtain ⟨_, ⟨_, rfl⟩ | ⟨_, _, _, rfl⟩ | h1⟩ := h
  · exact absurd h0 (by simp)
  · exact absurd h0 (by simp)
  · exact h1
theorem get_any (w : World) (q at_ k : Nat) (sv : Value) (l : List Nat) (h : RfAt w q sv at_ false) (hs : Src w sv l) (hm : l.length ≤ 100000) (hk : at_ + k ≤ l.length) (hk1 : 0 < k) (hk6 : k ≤ 6) :
    Calls Try.prog 56 #[.pointer (some ⟨q, 0, none⟩), .int .i64 (k : Int)] w fun e w' => e = .returned (.int .i64 (Cd.val ((l.drop at_).take k) : Nat)) ∧ RfAt w' q sv (at_ + k) false ∧ Only [q] w w' := by
  obtain ⟨b, o, c, rfl, hc, hr⟩ := hs.full (by omega)
  exact get_ok w q at_ k b o l.length c l h rfl hs.small hr hm hk hk6
theorem get_none (w : World) (q at_ k : Nat) (sv : Value) (l : List Nat) (bad : Bool) (h : RfAt w q sv at_ bad) (hs : Src w sv l) (hm : l.length ≤ 100000) (ha : at_ ≤ l.length) (hk6 : k ≤ 6) (hb : bad = true ∨ l.length < at_ + k) :
    Calls Try.prog 56 #[.pointer (some ⟨q, 0, none⟩), .int .i64 (k : Int)] w fun e w' => e = .returned (.int .i64 0) ∧ RfAt w' q sv at_ true ∧ Only [q] w w' := by
  obtain ⟨pa, c, rfl, -⟩ := hs.slice
  cases bad with
  | true => exact get_bad w q at_ k pa l.length c h
  | false => exact get_lack w q at_ k pa l.length c h hm ha (by rcases hb with h | h; cases h; exact h) hk6
set_option maxHeartbeats 2000000 in
theorem RNum_ok (w : World) (q at_ : Nat) (sv : Value) (l : List Nat) (least most : Int) (n : Nat) (h : RfAt w q sv at_ false) (hs : Src w sv l) (hm : l.length ≤ 100000) (hk : at_ + 6 ≤ l.length) (hn : Cd.val ((l.drop at_).take 6) = n) (h1 : least ≤ (n : Int)) (h2 : (n : Int) ≤ most) :
    Calls Try.prog 43 #[.pointer (some ⟨q, 0, none⟩), .int .i64 least, .int .i64 most] w fun e w' => e = .returned (.int .i64 (n : Int)) ∧ RfAt w' q sv (at_ + 6) false ∧ Only [q] w w' := by
  have HC : ∀ W, W = w → Calls Try.prog 56 #[.pointer (some ⟨q, 0, none⟩), .int .i64 6] W fun e w' => e = .returned (.int .i64 (n : Int)) ∧ RfAt w' q sv (at_ + 6) false ∧ Only [q] w w' := by
    rintro W rfl
    have := get_any W q at_ 6 sv l h hs hm hk (by decide) (by decide)
    rwa [hn] at this
  clear h hs hm hk hn
  go_enter Try.func43, Try.ntmps43
  go_wp2_with (go_at_call 56; refine (HC _ rfl).mono ?_; rintro e w1 ⟨rfl, r1, o1⟩; obtain ⟨d0, d1, d2, -, -⟩ := r1.cells; have R1 : Hid (RfAt w1 q sv (at_ + 6) false) := r1; have O1 : Hid (Only [q] w w1) := o1; clear r1 o1)
  go_ret
  exact ⟨rfl, R1.out, O1.out⟩
set_option maxHeartbeats 2000000 in
theorem RNum_none (w : World) (q at_ : Nat) (sv : Value) (l : List Nat) (bad : Bool) (least most : Int) (h : RfAt w q sv at_ bad) (hs : Src w sv l) (hm : l.length ≤ 100000) (ha : at_ ≤ l.length) (hb : bad = true ∨ l.length < at_ + 6) :
    Calls Try.prog 43 #[.pointer (some ⟨q, 0, none⟩), .int .i64 least, .int .i64 most] w fun e w' => e = .returned (.int .i64 0) ∧ RfAt w' q sv at_ true ∧ Only [q] w w' := by
  have HC : ∀ W, W = w → Calls Try.prog 56 #[.pointer (some ⟨q, 0, none⟩), .int .i64 6] W fun e w' => e = .returned (.int .i64 0) ∧ RfAt w' q sv at_ true ∧ Only [q] w w' := by
    rintro W rfl
    exact get_none W q at_ 6 sv l bad h hs hm ha (by decide) hb
  clear h hs hm ha hb
  go_enter Try.func43, Try.ntmps43
  go_wp2_with (go_at_call 56; refine (HC _ rfl).mono ?_; rintro e w1 ⟨rfl, r1, o1⟩; obtain ⟨d0, d1, d2, -, g2⟩ := r1.cells; have R1 : Hid (RfAt w1 q sv at_ true) := r1; have O1 : Hid (Only [q] w w1) := o1; clear r1 o1)
  go_ret
  exact ⟨rfl, R1.out.spoil, O1.out.trans (Only.setCell _ _ _ (by simp))⟩
set_option maxHeartbeats 2000000 in
theorem RNum_out (w : World) (q at_ : Nat) (sv : Value) (l : List Nat) (least most : Int) (n : Nat) (h : RfAt w q sv at_ false) (hs : Src w sv l) (hm : l.length ≤ 100000) (hk : at_ + 6 ≤ l.length) (hn : Cd.val ((l.drop at_).take 6) = n) (hb : (n : Int) < least ∨ most < (n : Int)) :
    Calls Try.prog 43 #[.pointer (some ⟨q, 0, none⟩), .int .i64 least, .int .i64 most] w fun e w' => e = .returned (.int .i64 0) ∧ RfAt w' q sv (at_ + 6) true ∧ Only [q] w w' := by
  have HC : ∀ W, W = w → Calls Try.prog 56 #[.pointer (some ⟨q, 0, none⟩), .int .i64 6] W fun e w' => e = .returned (.int .i64 (n : Int)) ∧ RfAt w' q sv (at_ + 6) false ∧ Only [q] w w' := by
    rintro W rfl
    have := get_any W q at_ 6 sv l h hs hm hk (by decide) (by decide)
    rwa [hn] at this
  clear h hs hm hk hn
  by_cases h1 : (n : Int) < least
  all_goals
    have h2 : (n : Int) < least ∨ most < (n : Int) := hb
    clear hb
    first
      | (have h3 : most < (n : Int) := (by omega); clear h2)
      | clear h2
    go_enter Try.func43, Try.ntmps43
    go_wp2_with (go_at_call 56; refine (HC _ rfl).mono ?_; rintro e w1 ⟨rfl, r1, o1⟩; obtain ⟨d0, d1, d2, -, g2⟩ := r1.cells; have R1 : Hid (RfAt w1 q sv (at_ + 6) false) := r1; have O1 : Hid (Only [q] w w1) := o1; clear r1 o1)
    go_ret
    exact ⟨rfl, R1.out.spoil, O1.out.trans (Only.setCell _ _ _ (by simp))⟩
set_option maxHeartbeats 4000000 in
theorem RText_ok (w : World) (q at_ : Nat) (sv : Value) (l : List Nat) (least most : Int) (n : Nat) (h : RfAt w q sv at_ false) (hs : Src w sv l) (ho : Off sv [q]) (hm : l.length ≤ 100000) (hk : at_ + 2 + n ≤ l.length) (hn : Cd.val ((l.drop at_).take 2) = n) (h1 : least ≤ (n : Int)) (h2 : (n : Int) ≤ most) :
    Calls Try.prog 44 #[.pointer (some ⟨q, 0, none⟩), .int .i64 least, .int .i64 most] w fun e w' => ∃ v, e = .returned v ∧ v.ownBlock = sv.ownBlock ∧ Src w' v ((l.drop (at_ + 2)).take n) ∧ RfAt w' q sv (at_ + 2 + n) false ∧ Only [q] w w' := by
  have HC : ∀ W, W = w → Calls Try.prog 56 #[.pointer (some ⟨q, 0, none⟩), .int .i64 2] W fun e w' => e = .returned (.int .i64 (n : Int)) ∧ RfAt w' q sv (at_ + 2) false ∧ Only [q] w w' := by
    rintro W rfl
    have := get_any W q at_ 2 sv l h hs hm (by omega) (by decide) (by decide)
    rwa [hn] at this
  obtain ⟨b, o, c, rfl, hc, hr⟩ := hs.full (by omega)
  have HT : Hid (∀ w', Only [q] w w' → (∀ cc, Src w' (.slice (some ⟨b, o + (at_ + 2), none⟩) n (c - cc)) ((l.drop (at_ + 2)).take n) ∨ c - cc < n)) := fun w' hw cc => by
    by_cases hcc : c - cc < n
    · exact .inr hcc
    · refine .inl (Src.row (fun x hx => hs.small x (List.mem_of_mem_drop (List.mem_of_mem_take hx))) ?_ ?_ ?_)
      · rw [List.length_take, List.length_drop]; omega
      · refine range_take (range_drop (range_kept hr (hw.block b (range_lt hr ?_) (ho b rfl))) (at_ + 2)) n
        intro e
        have := congrArg List.length e
        rw [ints_length, List.length_nil] at this
        omega
      · rw [List.length_take, List.length_drop]; omega
  have HT0 : Hid (∀ w', n = 0 → ∀ ad cc, Src w' (.slice (some ad) 0 cc) ((l.drop (at_ + 2)).take n)) := fun w' h0 ad cc => by
    subst h0
    rw [List.take_zero]
    exact ⟨fun x hx => (by cases hx), .inr (.inl ⟨ad, cc, rfl, rfl⟩)⟩
  generalize (l.drop (at_ + 2)).take n = tx at *
  generalize l.length = m at *
  clear h hs ho hn hr
  have m1 : (m : Int) ≤ 100000 := by omega
  have m2 : (at_ : Int) + 2 + (n : Int) ≤ (m : Int) := by omega
  have mc : (m : Int) ≤ (c : Int) := by omega
  have a0 : (0 : Int) ≤ (at_ : Int) := by omega
  have n0 : (0 : Int) ≤ (n : Int) := by omega
  have hd1 : decide ((n : Int) < least) = false := by simp; omega
  have hd2 : decide (most < (n : Int)) = false := by simp; omega
  have hd3 : decide ((m : Int) - ((at_ : Int) + 2) < (n : Int)) = false := by simp; omega
  go_enter Try.func44, Try.ntmps44
  go_wp2_with (go_at_call 56; refine (HC _ rfl).mono ?_; rintro e w1 ⟨rfl, r1, o1⟩; obtain ⟨d0, d1, d2, g1, g2⟩ := r1.cells; have R1 : Hid (RfAt w1 q (.slice (some ⟨b, o, none⟩) m c) (at_ + 2) false) := r1; have O1 : Hid (Only [q] w w1) := o1; clear r1 o1)
  go_quiet (fail)
  go_wp2_with fail
  have e3 : (at_ : Int) + 2 + (n : Int) = ((at_ + 2 + n : Nat) : Int) := by omega
  rw [e3]
  have R2 : Hid (RfAt ((w1.drewN nq).setCell ⟨q, 1, none⟩ (.int .i64 ((at_ + 2 + n : Nat) : Int))) q (.slice (some ⟨b, o, none⟩) m c) (at_ + 2 + n) false) := (R1.out.drewN nq).move (at_ + 2 + n)
  have O2 : Hid (Only [q] w ((w1.drewN nq).setCell ⟨q, 1, none⟩ (.int .i64 ((at_ + 2 + n : Nat) : Int)))) := (O1.out.trans (Only.drewN nq w1 [q])).trans (Only.setCell _ _ _ (by simp))
  clear R1 O1 d0 d1 d2 g1 g2 hd1 hd2 hd3 e3
  generalize (w1.drewN nq).setCell ⟨q, 1, none⟩ (.int .i64 ((at_ + 2 + n : Nat) : Int)) = w2 at *
  obtain ⟨d0, d1, d2, -, -⟩ := R2.out.cells
  obtain ⟨hi, HI⟩ : ∃ hi, Hid (at_ + 2 + n = hi) := ⟨_, rfl⟩
  rw [HI.out] at R2 d1 ⊢
  have s1 : (hi : Int) - (n : Int) = ((at_ + 2 : Nat) : Int) := by have := HI.out; omega
  obtain ⟨lo, HLO⟩ : ∃ lo, Hid (at_ + 2 = lo) := ⟨_, rfl⟩
  rw [HLO.out] at s1
  have s2 : (lo : Int) ≤ (hi : Int) := by have := HI.out; have := HLO.out; omega
  have s3 : (hi : Int) ≤ (c : Int) := by have := HI.out; omega
  have s4 : (0 : Int) ≤ (lo : Int) := by omega
  have s5 : (hi : Int) ≤ 100000 := by have := HI.out; omega
  have HHI : Hid (hi = lo + n ∧ hi ≤ c) := ⟨by have := HI.out; have := HLO.out; omega, by have := HI.out; omega⟩
  clear m1 m2 mc a0 h1 h2
  have hfin : ∀ W v, W = w2.drewN 0 ∨ True → Only [q] w W → RfAt W q (.slice (some ⟨b, o, none⟩) m c) hi false → v.ownBlock = some b → Src W v tx → ∃ v', Ending.returned v = .returned v' ∧ v'.ownBlock = (Value.slice (some ⟨b, o, none⟩) m c).ownBlock ∧ Src W v' tx ∧ RfAt W q (.slice (some ⟨b, o, none⟩) m c) (at_ + 2 + n) false ∧ Only [q] w W :=
    fun W v _ h1 h2 h4 h3 => ⟨v, rfl, h4, h3, HI.out ▸ h2, h1⟩
  by_cases hcl : c = lo
  · have hn0 : n = 0 := by have := HHI.out; omega
    have HF : Hid (∀ W v, Only [q] w W → RfAt W q (.slice (some ⟨b, o, none⟩) m c) hi false → v.ownBlock = some b → Src W v tx → ∃ v', Ending.returned v = .returned v' ∧ v'.ownBlock = (Value.slice (some ⟨b, o, none⟩) m c).ownBlock ∧ Src W v' tx ∧ RfAt W q (.slice (some ⟨b, o, none⟩) m c) (at_ + 2 + n) false ∧ Only [q] w W) := fun W v => hfin W v (.inr trivial)
    have HN0 : Hid (n = 0) := hn0
    clear hfin hn0
    go_quiet (fail)
    go_wp2_with fail
    all_goals
      go_ret
      refine HF.out _ _ (O2.out.trans (Only.drewN _ _ _)) (R2.out.drewN _) rfl ?_
      show Src _ (.slice (some ⟨b, o, none⟩) (hi - lo) 0) tx
      rw [show hi - lo = 0 from by have := HHI.out; have := HN0.out; omega]
      exact HT0.out _ HN0.out _ _
  · have HF : Hid (∀ W v, Only [q] w W → RfAt W q (.slice (some ⟨b, o, none⟩) m c) hi false → v.ownBlock = some b → Src W v tx → ∃ v', Ending.returned v = .returned v' ∧ v'.ownBlock = (Value.slice (some ⟨b, o, none⟩) m c).ownBlock ∧ Src W v' tx ∧ RfAt W q (.slice (some ⟨b, o, none⟩) m c) (at_ + 2 + n) false ∧ Only [q] w W) := fun W v => hfin W v (.inr trivial)
    clear hfin
    go_quiet (fail)
    go_wp2_with fail
    all_goals
      go_ret
      refine HF.out _ _ (O2.out.trans (Only.drewN _ _ _)) (R2.out.drewN _) rfl ?_
      show Src _ (.slice (some ⟨b, o + lo, none⟩) (hi - lo) (c - lo)) tx
      rw [show hi - lo = n from by have := HHI.out; omega, ← HLO.out]
      rcases HT.out _ (O2.out.trans (Only.drewN nq w2 [q])) (at_ + 2) with h | h
      · exact h
      · have := HHI.out; have := HLO.out; omega
set_option maxHeartbeats 4000000 in
theorem RText_none (w : World) (q at_ : Nat) (sv : Value) (l : List Nat) (bad : Bool) (least most : Int) (h : RfAt w q sv at_ bad) (hs : Src w sv l) (hm : l.length ≤ 100000) (ha : at_ ≤ l.length) (hb : bad = true ∨ l.length < at_ + 2) :
    Calls Try.prog 44 #[.pointer (some ⟨q, 0, none⟩), .int .i64 least, .int .i64 most] w fun e w' => e = .returned (.slice none 0 0) ∧ RfAt w' q sv at_ true ∧ Only [q] w w' := by
  have HC : ∀ W, W = w → Calls Try.prog 56 #[.pointer (some ⟨q, 0, none⟩), .int .i64 2] W fun e w' => e = .returned (.int .i64 0) ∧ RfAt w' q sv at_ true ∧ Only [q] w w' := by
    rintro W rfl
    exact get_none W q at_ 2 sv l bad h hs hm ha (by decide) hb
  obtain ⟨pa, c, rfl, -⟩ := hs.slice
  clear h hs hm ha hb
  go_enter Try.func44, Try.ntmps44
  go_wp2_with (go_at_call 56; refine (HC _ rfl).mono ?_; rintro e w1 ⟨rfl, r1, o1⟩; obtain ⟨d0, d1, d2, -, g2⟩ := r1.cells; have R1 : Hid (RfAt w1 q (.slice pa l.length c) at_ true) := r1; have O1 : Hid (Only [q] w w1) := o1; clear r1 o1)
  go_quiet (fail)
  go_wp2_with fail
  go_ret
  exact ⟨rfl, (R1.out.drewN nq).spoil, (O1.out.trans (Only.drewN nq w1 [q])).trans (Only.setCell _ _ _ (by simp))⟩
set_option maxHeartbeats 4000000 in
theorem RText_out (w : World) (q at_ : Nat) (sv : Value) (l : List Nat) (least most : Int) (n : Nat) (h : RfAt w q sv at_ false) (hs : Src w sv l) (hm : l.length ≤ 100000) (hk : at_ + 2 ≤ l.length) (hn : Cd.val ((l.drop at_).take 2) = n) (hb : (n : Int) < least ∨ most < (n : Int) ∨ l.length < at_ + 2 + n) :
    Calls Try.prog 44 #[.pointer (some ⟨q, 0, none⟩), .int .i64 least, .int .i64 most] w fun e w' => e = .returned (.slice none 0 0) ∧ RfAt w' q sv (at_ + 2) true ∧ Only [q] w w' := by
  have HC : ∀ W, W = w → Calls Try.prog 56 #[.pointer (some ⟨q, 0, none⟩), .int .i64 2] W fun e w' => e = .returned (.int .i64 (n : Int)) ∧ RfAt w' q sv (at_ + 2) false ∧ Only [q] w w' := by
    rintro W rfl
    have := get_any W q at_ 2 sv l h hs hm hk (by decide) (by decide)
    rwa [hn] at this
  obtain ⟨pa, c, rfl, -⟩ := hs.slice
  generalize l.length = m at *
  clear h hs hn
  have m1 : (m : Int) ≤ 100000 := by omega
  have m2 : (at_ : Int) + 2 ≤ (m : Int) := by omega
  have a0 : (0 : Int) ≤ (at_ : Int) := by omega
  by_cases h1 : (n : Int) < least
  · have hd1 : decide ((n : Int) < least) = true := by simpa using h1
    clear hb h1
    go_enter Try.func44, Try.ntmps44
    go_wp2_with (go_at_call 56; refine (HC _ rfl).mono ?_; rintro e w1 ⟨rfl, r1, o1⟩; obtain ⟨d0, d1, d2, -, g2⟩ := r1.cells; have R1 : Hid (RfAt w1 q (.slice pa m c) (at_ + 2) false) := r1; have O1 : Hid (Only [q] w w1) := o1; clear r1 o1)
    go_quiet (fail)
    go_wp2_with fail
    go_ret
    exact ⟨rfl, (R1.out.drewN nq).spoil, (O1.out.trans (Only.drewN nq w1 [q])).trans (Only.setCell _ _ _ (by simp))⟩
  · have hd1 : decide ((n : Int) < least) = false := by simpa using h1
    by_cases h2 : most < (n : Int)
    · have hd2 : decide (most < (n : Int)) = true := by simpa using h2
      clear hb h1 h2
      go_enter Try.func44, Try.ntmps44
      go_wp2_with (go_at_call 56; refine (HC _ rfl).mono ?_; rintro e w1 ⟨rfl, r1, o1⟩; obtain ⟨d0, d1, d2, -, g2⟩ := r1.cells; have R1 : Hid (RfAt w1 q (.slice pa m c) (at_ + 2) false) := r1; have O1 : Hid (Only [q] w w1) := o1; clear r1 o1)
      go_quiet (fail)
      go_wp2_with fail
      go_ret
      exact ⟨rfl, (R1.out.drewN nq).spoil, (O1.out.trans (Only.drewN nq w1 [q])).trans (Only.setCell _ _ _ (by simp))⟩
    · have hd2 : decide (most < (n : Int)) = false := by simpa using h2
      have hd3 : decide ((m : Int) - ((at_ : Int) + 2) < (n : Int)) = true := by simp; omega
      clear hb h1 h2
      go_enter Try.func44, Try.ntmps44
      go_wp2_with (go_at_call 56; refine (HC _ rfl).mono ?_; rintro e w1 ⟨rfl, r1, o1⟩; obtain ⟨d0, d1, d2, -, g2⟩ := r1.cells; have R1 : Hid (RfAt w1 q (.slice pa m c) (at_ + 2) false) := r1; have O1 : Hid (Only [q] w w1) := o1; clear r1 o1)
      go_quiet (fail)
      go_wp2_with fail
      go_ret
      exact ⟨rfl, (R1.out.drewN nq).spoil, (O1.out.trans (Only.drewN nq w1 [q])).trans (Only.setCell _ _ _ (by simp))⟩
set_option maxHeartbeats 2000000 in
theorem REnd_any (w : World) (q at_ : Nat) (sv : Value) (l : List Nat) (bad : Bool) (h : RfAt w q sv at_ bad) (hs : Src w sv l) :
    Calls Try.prog 45 #[.pointer (some ⟨q, 0, none⟩)] w fun e w' => e = .returned (.bool (!bad && decide (at_ = l.length))) ∧ ∃ k, w' = w.drewN k := by
  obtain ⟨d0, d1, d2, -, -⟩ := h.cells
  obtain ⟨pa, c, rfl, -⟩ := hs.slice
  generalize l.length = m at *
  clear h hs
  cases bad
  · by_cases hm : at_ = m
    · have m0 : ((at_ : Int) == (m : Int)) = true := by simp; omega
      have e0 : (!false && decide (at_ = m)) = true := by simp [hm]
      rw [e0]
      clear hm e0
      go_enter Try.func45, Try.ntmps45
      go_wp2_with fail
      go_quiet (fail)
      go_wp2_with fail
      go_ret
      exact ⟨rfl, nq, rfl⟩
    · have m0 : ((at_ : Int) == (m : Int)) = false := by simp; omega
      have e0 : (!false && decide (at_ = m)) = false := by simp [hm]
      rw [e0]
      clear hm e0
      go_enter Try.func45, Try.ntmps45
      go_wp2_with fail
      go_quiet (fail)
      go_wp2_with fail
      go_ret
      exact ⟨rfl, nq, rfl⟩
  · go_enter Try.func45, Try.ntmps45
    go_wp2_with fail
    go_quiet (fail)
    go_wp2_with fail
    go_ret
    exact ⟨rfl, nq, rfl⟩
end Go.Proofs.Ytchoiioeeepoaaa.C8
