/- The walk of FrameKinds. -/
import Derived.Test.YtmllecdbedighaaF17Anc
import Derived.Deep.CutRange
namespace Go.Proofs.Ytmllecdbedighaa.F17
open Go.RowKit C8 E9
def head (cl i : Int) (n : Nat) : Bool := decide (1 ≤ cl ∧ cl ≤ 1099511627776) && (decide (0 ≤ i ∧ i ≤ 64) && decide (n ≤ 8))
theorem lok_snoc (ls : List (List Nat)) (x : List Nat) : lok (ls ++ [x]) = (lok ls && decide (1 ≤ x.length ∧ x.length ≤ 4096)) := by
  induction ls with
  | nil => simp [lok]
  | cons y r ih => simp only [List.cons_append, lok, ih, Bool.and_assoc]
/-- What is wanted of each kind. -/
def want (b : Bool) (i : Int) (n m : Nat) : Nat → Bool
  | 1 => b && decide (0 < n) && decide (i = 0) && decide (m = 0)
  | 2 => b && decide (n = 0) && decide (m = 0)
  | 3 => b && decide (m = 0)
  | 4 => b && decide (n = 0) && decide (m = 32)
  | _ => false
theorem right_want (cl i : Int) (ls : List (List Nat)) (t : List Nat) (k : Nat) : right ⟨(k : Int), cl, i, ls, t⟩ = want (head cl i ls.length && lok ls) i ls.length t.length k := by
  unfold right lks head byKind
  simp only
  match k with
  | 0 => simp [want]
  | 1 =>
    rw [if_pos (show ((1 : Nat) : Int) = 1 from rfl)]
    unfold want
    generalize decide (1 ≤ cl ∧ cl ≤ 1099511627776) = b1
    generalize decide (0 ≤ i ∧ i ≤ 64) = b2
    generalize decide (ls.length ≤ 8) = b3
    generalize lok ls = b4
    generalize decide (i = 0) = b5
    generalize decide (0 < ls.length) = b6
    generalize decide (t.length = 0) = b7
    cases b1 <;> cases b2 <;> cases b3 <;> cases b4 <;> cases b5 <;> cases b6 <;> cases b7 <;> rfl
  | 2 => simp [want, Bool.and_assoc]
  | 3 => simp [want, Bool.and_assoc]
  | 4 => simp [want, Bool.and_assoc]
  | k + 5 =>
    rw [if_neg (by omega), if_neg (by omega), if_neg (by omega), if_neg (by omega)]
    simp [want]
theorem want1_iff (i : Int) (n m : Nat) : want true i n m 1 = true ↔ 0 < n ∧ i = 0 ∧ m = 0 := by simp [want, and_assoc]
theorem want2_iff (i : Int) (n m : Nat) : want true i n m 2 = true ↔ n = 0 ∧ m = 0 := by simp [want]
theorem want3_iff (i : Int) (n m : Nat) : want true i n m 3 = true ↔ m = 0 := by simp [want]
theorem want4_iff (i : Int) (n m : Nat) : want true i n m 4 = true ↔ n = 0 ∧ m = 32 := by simp [want]
/-- What stands in the second loop. -/
structure K9 (w W : World) (b d : Nat) (C D : Array Value) : Prop where
  bel : Below w.heap.size w W
  box : W.heap[b]? = some (.cells C 25 (0, 0))
  tab : W.heap[d]? = some (.cells D 41 (0, 0))
  lo : w.heap.size ≤ b
  ne : b ≠ d
theorem K9.step {w W W' : World} {b d : Nat} {C D : Array Value} (h : K9 w W b d C D) (hb : Below W.heap.size W W') : K9 w W' b d C D :=
  ⟨h.bel.trans (bel_le hb h.bel.size), (hb.block _ (Array.getElem?_eq_some_iff.1 h.box).1).trans h.box, (hb.block _ (Array.getElem?_eq_some_iff.1 h.tab).1).trans h.tab, h.lo, h.ne⟩
theorem K9.set {w W : World} {b d : Nat} {x0 x1 x2 x3 x4 : Value} {D : Array Value} (h : K9 w W b d #[x0, x1, x2, x3, x4] D) (v : Value) : K9 w (W.setCell ⟨b, 0, none⟩ v) b d #[v, x1, x2, x3, x4] D :=
  ⟨h.bel.setCell (p := ⟨b, 0, none⟩) h.lo v, heap_setCell_same _ b 0 _ 25 v h.box, ((Only.setCell W ⟨b, 0, none⟩ v (bs := [b]) (by simp)).block d (Array.getElem?_eq_some_iff.1 h.tab).1 (by simpa using fun e => h.ne e.symm)).trans h.tab, h.lo, h.ne⟩
set_option maxHeartbeats 2000000 in
theorem kinds_e (cl i : Int) (q : Option Addr) (c : Nat) (sp : Option Addr) (sc : Nat) (ls : List (List Nat)) (t : List Nat) (w : World) (hq : LkRow w q ls) (ht : Src w (.slice sp t.length sc) t) (ll : ls.length ≤ 9223372036854775807) (lt : t.length ≤ 9223372036854775807) (hs : small ⟨0, cl, i, ls, t⟩ = false) : Calls Try.prog 7 #[.int .i64 cl, .int .i64 i, .slice q ls.length c, .slice sp t.length sc] w fun e w' => e = .returned (.bool true) ∧ Below w.heap.size w w' := by
  have HF : Hid (∀ W k, Below w.heap.size w W → FrIs W (.agg #[.int .i64 k, .int .i64 cl, .int .i64 i, .slice q ls.length c, .slice sp t.length sc]) ⟨k, cl, i, ls, t⟩) := fun W k h => ⟨q, c, sp, sc, rfl, hq.below h, ht.below h, ll, lt⟩
  have HC9 : ∀ W, W = w → Calls Try.prog 9 #[] W fun e w' => e = .returned (.bool true) ∧ Hid (Below w.heap.size w w') := fun W h => h ▸ anchor_any W
  have HC10 : ∀ W b, Hid (St9 w W b #[.int .i64 0, .int .i64 cl, .int .i64 i, .slice q ls.length c, .slice sp t.length sc]) → Calls Try.prog 10 #[.agg #[.int .i64 0, .int .i64 cl, .int .i64 i, .slice q ls.length c, .slice sp t.length sc]] W fun e w' => e = .returned (.bool (small ⟨0, cl, i, ls, t⟩)) ∧ Hid (St9 w w' b #[.int .i64 0, .int .i64 cl, .int .i64 i, .slice q ls.length c, .slice sp t.length sc]) := fun W b h => (small_any ⟨0, cl, i, ls, t⟩ _ W (HF.out W 0 h.out.bel)).mono (by rintro e w' ⟨rfl, hb⟩; exact ⟨rfl, h.out.step hb⟩)
  rw [hs] at HC10
  have HST : Hid (∀ W1 : World, Below w.heap.size w W1 → St9 w (W1.alloc (.cells #[.int .i64 0, .int .i64 cl, .int .i64 i, .slice q ls.length c, .slice sp t.length sc] 25)) W1.heap.size #[.int .i64 0, .int .i64 cl, .int .i64 i, .slice q ls.length c, .slice sp t.length sc]) := fun W1 h => ⟨h.trans (bel_alloc h.size _), heap_alloc_new W1 _⟩
  clear hs HF hq ht
  generalize ls.length = n at *
  generalize t.length = m at *
  go_enter Try.func7, Try.ntmps7
  go_wp2_with (first | (go_at_call 9; refine (HC9 _ rfl).mono ?_; rintro e w1 ⟨rfl, B1⟩) | (go_at_call 10; refine (HC10 _ _ (HST.out _ B1.out)).mono ?_; rintro e w2 ⟨rfl, S2⟩))
  go_ret
  exact ⟨rfl, S2.out.bel⟩
set_option maxHeartbeats 8000000 in
theorem kinds_main (cl i : Int) (q : Option Addr) (c : Nat) (sp : Option Addr) (sc : Nat) (ls : List (List Nat)) (t : List Nat) (w : World) (hq : LkRow w q ls) (ht : Src w (.slice sp t.length sc) t) (ll : ls.length ≤ 9223372036854775807) (lt : t.length ≤ 9223372036854775807) (hs : small ⟨0, cl, i, ls, t⟩ = true) : Calls Try.prog 7 #[.int .i64 cl, .int .i64 i, .slice q ls.length c, .slice sp t.length sc] w fun e w' => e = .returned (.bool true) ∧ Below w.heap.size w w' := by
  have HF : Hid (∀ W k, Below w.heap.size w W → FrIs W (.agg #[.int .i64 k, .int .i64 cl, .int .i64 i, .slice q ls.length c, .slice sp t.length sc]) ⟨k, cl, i, ls, t⟩) := fun W k h => ⟨q, c, sp, sc, rfl, hq.below h, ht.below h, ll, lt⟩
  have HC9 : ∀ W, W = w → Calls Try.prog 9 #[] W fun e w' => e = .returned (.bool true) ∧ Hid (Below w.heap.size w w') := fun W h => h ▸ anchor_any W
  have HC10 : ∀ W b, Hid (St9 w W b #[.int .i64 0, .int .i64 cl, .int .i64 i, .slice q ls.length c, .slice sp t.length sc]) → Calls Try.prog 10 #[.agg #[.int .i64 0, .int .i64 cl, .int .i64 i, .slice q ls.length c, .slice sp t.length sc]] W fun e w' => e = .returned (.bool (small ⟨0, cl, i, ls, t⟩)) ∧ Hid (St9 w w' b #[.int .i64 0, .int .i64 cl, .int .i64 i, .slice q ls.length c, .slice sp t.length sc]) := fun W b h => (small_any ⟨0, cl, i, ls, t⟩ _ W (HF.out W 0 h.out.bel)).mono (by rintro e w' ⟨rfl, hb⟩; exact ⟨rfl, h.out.step hb⟩)
  rw [hs] at HC10
  have HST : Hid (∀ W1 : World, Below w.heap.size w W1 → St9 w (W1.alloc (.cells #[.int .i64 0, .int .i64 cl, .int .i64 i, .slice q ls.length c, .slice sp t.length sc] 25)) W1.heap.size #[.int .i64 0, .int .i64 cl, .int .i64 i, .slice q ls.length c, .slice sp t.length sc] ∧ w.heap.size ≤ W1.heap.size) := fun W1 h => ⟨⟨h.trans (bel_alloc h.size _), heap_alloc_new W1 _⟩, h.size⟩
  have HC12 : ∀ W k b d D, Hid (K9 w W b d #[.int .i64 (k : Nat), .int .i64 cl, .int .i64 i, .slice q ls.length c, .slice sp t.length sc] D) → Calls Try.prog 12 #[.agg #[.int .i64 (k : Nat), .int .i64 cl, .int .i64 i, .slice q ls.length c, .slice sp t.length sc]] W fun e w' => e = .returned (.bool (want (head cl i ls.length && lok ls) i ls.length t.length k)) ∧ Hid (K9 w w' b d #[.int .i64 (k : Nat), .int .i64 cl, .int .i64 i, .slice q ls.length c, .slice sp t.length sc] D) := fun W k b d D h => (Right_any ⟨k, cl, i, ls, t⟩ _ W (HF.out W k h.out.bel)).mono (by rintro e w' ⟨rfl, hb⟩; exact ⟨by rw [right_want], h.out.step hb⟩)
  have HA : Hid (LkRow w q ls) := hq
  clear hs HF hq ht
  obtain ⟨n, HN⟩ : ∃ n, Hid (ls.length = n) := ⟨_, rfl⟩
  rw [HN.out] at HC10 HST HC12 ll ⊢
  generalize t.length = m at *
  have l1 : (n : Int) ≤ 9223372036854775807 := by omega
  have l2 : (m : Int) ≤ 9223372036854775807 := by omega
  go_enter Try.func7, Try.ntmps7
  go_upto_region 6 with (first | (go_at_call 9; refine (HC9 _ rfl).mono ?_; rintro e w1 ⟨rfl, B1⟩) | (go_at_call 10; refine (HC10 _ _ (HST.out _ B1.out).1).mono ?_; rintro e w2 ⟨rfl, S2⟩))
  have LO : Hid (w.heap.size ≤ w1.heap.size) := (HST.out _ B1.out).2
  clear HC9 HC10 HST B1
  generalize w1.heap.size = b9 at *
  obtain ⟨b0, HB0⟩ : ∃ b0, Hid (head cl i n = b0) := ⟨_, rfl⟩
  go_cut [10] from 25 to 43 (fun v10 wx => v10 = .bool b0 ∧ w2 = wx)
  case first =>
    have HU : Hid ((decide (1 ≤ cl ∧ cl ≤ 1099511627776) && (decide (0 ≤ i ∧ i ≤ 64) && decide (n ≤ 8))) = b0) := HB0.out
    clear HB0 HC12 S2 LO HA HN
    by_cases h1 : 1 ≤ cl
    rotate_left
    · have hb : Hid (false = b0) := by show _ = _; rw [← HU.out, decide_eq_false (fun h => h1 h.1)]; rfl
      have h1' : ¬ cl ≥ 1 := h1
      clear HU
      go_wp2_with fail
      go_meet
      exact ⟨congrArg Value.bool hb.out, rfl⟩
    by_cases h2 : cl ≤ 1099511627776
    rotate_left
    · have hb : Hid (false = b0) := by show _ = _; rw [← HU.out, decide_eq_false (fun h => h2 h.2)]; rfl
      clear HU
      go_wp2_with fail
      go_meet
      exact ⟨congrArg Value.bool hb.out, rfl⟩
    have HU2 : Hid ((decide (0 ≤ i ∧ i ≤ 64) && decide (n ≤ 8)) = b0) := by show _ = _; rw [← HU.out, decide_eq_true (p := 1 ≤ cl ∧ cl ≤ 1099511627776) ⟨h1, h2⟩]; rfl
    clear HU
    by_cases h3 : 0 ≤ i
    rotate_left
    · have hb : Hid (false = b0) := by show _ = _; rw [← HU2.out, decide_eq_false (fun h => h3 h.1)]; rfl
      clear HU2
      go_wp2_with fail
      go_meet
      exact ⟨congrArg Value.bool hb.out, rfl⟩
    by_cases h4 : i ≤ 64
    rotate_left
    · have hb : Hid (false = b0) := by show _ = _; rw [← HU2.out, decide_eq_false (fun h => h4 h.2)]; rfl
      clear HU2
      go_wp2_with fail
      go_meet
      exact ⟨congrArg Value.bool hb.out, rfl⟩
    have HU3 : Hid (decide (n ≤ 8) = b0) := by show _ = _; rw [← HU2.out, decide_eq_true (p := 0 ≤ i ∧ i ≤ 64) ⟨h3, h4⟩]; rfl
    clear HU2
    by_cases h5 : n ≤ 8
    rotate_left
    · have hb : Hid (false = b0) := by show _ = _; rw [← HU3.out, decide_eq_false h5]
      have h5' : ¬ (n : Int) ≤ 8 := by omega
      clear HU3
      go_wp2_with fail
      go_meet
      exact ⟨congrArg Value.bool hb.out, rfl⟩
    have hb : Hid (true = b0) := by show _ = _; rw [← HU3.out, decide_eq_true h5]
    have h5' : (n : Int) ≤ 8 := by omega
    clear HU3
    go_wp2_with fail
    go_meet
    exact ⟨congrArg Value.bool hb.out, rfl⟩
  case rest =>
  obtain ⟨rfl, rfl⟩ := hcut
  go_wp2_with fail
  go_loopw [10, 46] (fun bv iv wr => ∃ j : Nat, ∃ b : Bool, j ≤ n ∧ bv = .bool b ∧ iv = .int .i64 j ∧ w2 = wr ∧ Hid (b = (b0 && lok (ls.take j)))) (fun _ iv _ => n - (intOf iv).toNat)
  case atStart => exact ⟨0, b0, by omega, rfl, rfl, rfl, by simp [Hid, lok]⟩
  case round =>
    obtain ⟨j, b, hj, rfl, rfl, rfl, HE⟩ := hrel
    by_cases hlt : j < n
    · have ja : j < ls.length := by rw [HN.out]; exact hlt
      obtain ⟨bb, o, bp, bc, rfl, k2, k3, k4, k5⟩ := HA.out j ja
      have d0 := (S2.out.bel.cell (p := ⟨bb, o + j, none⟩) k2).trans k3
      have j1 : (j : Int) < (n : Int) := by omega
      have j0 : (0 : Int) ≤ (j : Int) := by omega
      have HT : Hid ((b0 && lok (ls.take (j + 1))) = (b && decide (1 ≤ ls[j].length ∧ ls[j].length ≤ 4096))) := by
        show _ = _
        rw [List.take_succ_eq_append_getElem ja, lok_snoc, HE.out, Bool.and_assoc]
      clear k3 k4 HE
      generalize ls[j].length = xl at *
      clear ja
      cases b with
      | false =>
        have HT2 : Hid (false = (b0 && lok (ls.take (j + 1)))) := by show _ = _; rw [HT.out]; rfl
        clear HT
        go_wp2_with fail
        refine ⟨⟨j + 1, false, by omega, rfl, by simp, trivial, HT2⟩, ?_⟩
        simp only [intOf]
        omega
      | true =>
        by_cases hx : 1 ≤ xl
        rotate_left
        · have hx1 : ¬ (xl : Int) ≥ 1 := by omega
          have hx2 : ¬ (1 : Int) ≤ (xl : Int) := by omega
          have HT2 : Hid (false = (b0 && lok (ls.take (j + 1)))) := by show _ = _; rw [HT.out, decide_eq_false (fun h => hx h.1)]; rfl
          clear HT
          go_wp2_with fail
          refine ⟨⟨j + 1, false, by omega, rfl, by simp, trivial, HT2⟩, ?_⟩
          simp only [intOf]
          omega
        by_cases hy : xl ≤ 4096
        rotate_left
        · have hx1 : (1 : Int) ≤ (xl : Int) := by omega
          have hy1 : ¬ (xl : Int) ≤ 4096 := by omega
          have HT2 : Hid (false = (b0 && lok (ls.take (j + 1)))) := by show _ = _; rw [HT.out, decide_eq_false (fun h => hy h.2)]; rfl
          clear HT
          go_wp2_with fail
          refine ⟨⟨j + 1, false, by omega, rfl, by simp, trivial, HT2⟩, ?_⟩
          simp only [intOf]
          omega
        have hx1 : (1 : Int) ≤ (xl : Int) := by omega
        have hy1 : (xl : Int) ≤ 4096 := by omega
        have HT2 : Hid (true = (b0 && lok (ls.take (j + 1)))) := by show _ = _; rw [HT.out, decide_eq_true ⟨hx, hy⟩]; rfl
        clear HT
        go_wp2_with fail
        refine ⟨⟨j + 1, true, by omega, rfl, by simp, trivial, HT2⟩, ?_⟩
        simp only [intOf]
        omega
    · obtain rfl : j = n := by omega
      have j1 : ¬ (j : Int) < (j : Int) := by omega
      have HBE : Hid (b = (head cl i j && lok ls)) := by
        show _ = _
        rw [HE.out, HB0.out, List.take_of_length_le (by rw [HN.out]; omega)]
      rw [← HBE.out] at HC12
      clear HE HB0 HBE HA HN
      go_upto_region 12 with fail
      obtain ⟨x1, HX1⟩ : ∃ x, Hid (want b i j m 1 = x) := ⟨_, rfl⟩
      obtain ⟨x2, HX2⟩ : ∃ x, Hid (want b i j m 2 = x) := ⟨_, rfl⟩
      obtain ⟨x3, HX3⟩ : ∃ x, Hid (want b i j m 3 = x) := ⟨_, rfl⟩
      obtain ⟨x4, HX4⟩ : ∃ x, Hid (want b i j m 4 = x) := ⟨_, rfl⟩
      go_cut [13] from 62 to 105 (fun v13 wx => v13 = .pointer (some ⟨w2.heap.size, 0, none⟩) ∧ w2.alloc (.cells #[.bool false, .bool x1, .bool x2, .bool x3, .bool x4, .bool false] 41) = wx)
      case first =>
        clear HC12 S2 LO
        cases b with
        | false =>
          obtain rfl : false = x1 := HX1.out
          obtain rfl : false = x2 := HX2.out
          obtain rfl : false = x3 := HX3.out
          obtain rfl : false = x4 := HX4.out
          clear HX1 HX2 HX3 HX4
          go_wp2_with fail
          go_meet
          exact ⟨rfl, rfl⟩
        | true =>
          by_cases hj0 : j = 0
          · subst hj0
            by_cases hm0 : m = 0
            · subst hm0
              obtain rfl : false = x1 := (Bool.eq_false_iff.2 (fun h => by have := (want1_iff _ _ _).1 h; omega)).symm.trans HX1.out
              obtain rfl : true = x2 := ((want2_iff _ _ _).2 (by omega)).symm.trans HX2.out
              obtain rfl : true = x3 := ((want3_iff _ _ _).2 (by omega)).symm.trans HX3.out
              obtain rfl : false = x4 := (Bool.eq_false_iff.2 (fun h => by have := (want4_iff _ _ _).1 h; omega)).symm.trans HX4.out
              clear HX1 HX2 HX3 HX4
              go_wp2_with fail
              go_meet
              exact ⟨rfl, rfl⟩
            by_cases hm1 : m = 32
            · subst hm1
              obtain rfl : false = x1 := (Bool.eq_false_iff.2 (fun h => by have := (want1_iff _ _ _).1 h; omega)).symm.trans HX1.out
              obtain rfl : false = x2 := (Bool.eq_false_iff.2 (fun h => by have := (want2_iff _ _ _).1 h; omega)).symm.trans HX2.out
              obtain rfl : false = x3 := (Bool.eq_false_iff.2 (fun h => by have := (want3_iff _ _ _).1 h; omega)).symm.trans HX3.out
              obtain rfl : true = x4 := ((want4_iff _ _ _).2 (by omega)).symm.trans HX4.out
              clear HX1 HX2 HX3 HX4
              go_wp2_with fail
              go_meet
              exact ⟨rfl, rfl⟩
            have zm0 : ((m : Int) == 0) = false := by simp; omega
            have zm1 : ((m : Int) == 32) = false := by simp; omega
            obtain rfl : false = x1 := (Bool.eq_false_iff.2 (fun h => by have := (want1_iff _ _ _).1 h; omega)).symm.trans HX1.out
            obtain rfl : false = x2 := (Bool.eq_false_iff.2 (fun h => by have := (want2_iff _ _ _).1 h; omega)).symm.trans HX2.out
            obtain rfl : false = x3 := (Bool.eq_false_iff.2 (fun h => by have := (want3_iff _ _ _).1 h; omega)).symm.trans HX3.out
            obtain rfl : false = x4 := (Bool.eq_false_iff.2 (fun h => by have := (want4_iff _ _ _).1 h; omega)).symm.trans HX4.out
            clear HX1 HX2 HX3 HX4
            go_wp2_with fail
            go_meet
            exact ⟨rfl, rfl⟩
          have hn0 : 0 < j := by omega
          have zj0 : (0 : Int) < (j : Int) := by omega
          have zj1 : ((j : Int) == 0) = false := by simp; omega
          by_cases hi0 : i = 0
          · subst hi0
            by_cases hm0 : m = 0
            · subst hm0
              obtain rfl : true = x1 := ((want1_iff _ _ _).2 (by omega)).symm.trans HX1.out
              obtain rfl : false = x2 := (Bool.eq_false_iff.2 (fun h => by have := (want2_iff _ _ _).1 h; omega)).symm.trans HX2.out
              obtain rfl : true = x3 := ((want3_iff _ _ _).2 (by omega)).symm.trans HX3.out
              obtain rfl : false = x4 := (Bool.eq_false_iff.2 (fun h => by have := (want4_iff _ _ _).1 h; omega)).symm.trans HX4.out
              clear HX1 HX2 HX3 HX4
              go_wp2_with fail
              go_meet
              exact ⟨rfl, rfl⟩
            by_cases hm1 : m = 32
            · subst hm1
              obtain rfl : false = x1 := (Bool.eq_false_iff.2 (fun h => by have := (want1_iff _ _ _).1 h; omega)).symm.trans HX1.out
              obtain rfl : false = x2 := (Bool.eq_false_iff.2 (fun h => by have := (want2_iff _ _ _).1 h; omega)).symm.trans HX2.out
              obtain rfl : false = x3 := (Bool.eq_false_iff.2 (fun h => by have := (want3_iff _ _ _).1 h; omega)).symm.trans HX3.out
              obtain rfl : false = x4 := (Bool.eq_false_iff.2 (fun h => by have := (want4_iff _ _ _).1 h; omega)).symm.trans HX4.out
              clear HX1 HX2 HX3 HX4
              go_wp2_with fail
              go_meet
              exact ⟨rfl, rfl⟩
            have zm0 : ((m : Int) == 0) = false := by simp; omega
            have zm1 : ((m : Int) == 32) = false := by simp; omega
            obtain rfl : false = x1 := (Bool.eq_false_iff.2 (fun h => by have := (want1_iff _ _ _).1 h; omega)).symm.trans HX1.out
            obtain rfl : false = x2 := (Bool.eq_false_iff.2 (fun h => by have := (want2_iff _ _ _).1 h; omega)).symm.trans HX2.out
            obtain rfl : false = x3 := (Bool.eq_false_iff.2 (fun h => by have := (want3_iff _ _ _).1 h; omega)).symm.trans HX3.out
            obtain rfl : false = x4 := (Bool.eq_false_iff.2 (fun h => by have := (want4_iff _ _ _).1 h; omega)).symm.trans HX4.out
            clear HX1 HX2 HX3 HX4
            go_wp2_with fail
            go_meet
            exact ⟨rfl, rfl⟩
          have zi0 : (i == 0) = false := by simp [hi0]
          by_cases hm0 : m = 0
          · subst hm0
            obtain rfl : false = x1 := (Bool.eq_false_iff.2 (fun h => by have := (want1_iff _ _ _).1 h; omega)).symm.trans HX1.out
            obtain rfl : false = x2 := (Bool.eq_false_iff.2 (fun h => by have := (want2_iff _ _ _).1 h; omega)).symm.trans HX2.out
            obtain rfl : true = x3 := ((want3_iff _ _ _).2 (by omega)).symm.trans HX3.out
            obtain rfl : false = x4 := (Bool.eq_false_iff.2 (fun h => by have := (want4_iff _ _ _).1 h; omega)).symm.trans HX4.out
            clear HX1 HX2 HX3 HX4
            go_wp2_with fail
            go_meet
            exact ⟨rfl, rfl⟩
          by_cases hm1 : m = 32
          · subst hm1
            obtain rfl : false = x1 := (Bool.eq_false_iff.2 (fun h => by have := (want1_iff _ _ _).1 h; omega)).symm.trans HX1.out
            obtain rfl : false = x2 := (Bool.eq_false_iff.2 (fun h => by have := (want2_iff _ _ _).1 h; omega)).symm.trans HX2.out
            obtain rfl : false = x3 := (Bool.eq_false_iff.2 (fun h => by have := (want3_iff _ _ _).1 h; omega)).symm.trans HX3.out
            obtain rfl : false = x4 := (Bool.eq_false_iff.2 (fun h => by have := (want4_iff _ _ _).1 h; omega)).symm.trans HX4.out
            clear HX1 HX2 HX3 HX4
            go_wp2_with fail
            go_meet
            exact ⟨rfl, rfl⟩
          have zm0 : ((m : Int) == 0) = false := by simp; omega
          have zm1 : ((m : Int) == 32) = false := by simp; omega
          obtain rfl : false = x1 := (Bool.eq_false_iff.2 (fun h => by have := (want1_iff _ _ _).1 h; omega)).symm.trans HX1.out
          obtain rfl : false = x2 := (Bool.eq_false_iff.2 (fun h => by have := (want2_iff _ _ _).1 h; omega)).symm.trans HX2.out
          obtain rfl : false = x3 := (Bool.eq_false_iff.2 (fun h => by have := (want3_iff _ _ _).1 h; omega)).symm.trans HX3.out
          obtain rfl : false = x4 := (Bool.eq_false_iff.2 (fun h => by have := (want4_iff _ _ _).1 h; omega)).symm.trans HX4.out
          clear HX1 HX2 HX3 HX4
          go_wp2_with fail
          go_meet
          exact ⟨rfl, rfl⟩
      case rest =>
      obtain ⟨rfl, rfl⟩ := hcut
      have HK : Hid (K9 w (w2.alloc (.cells #[.bool false, .bool x1, .bool x2, .bool x3, .bool x4, .bool false] 41)) b9 w2.heap.size #[.int .i64 0, .int .i64 cl, .int .i64 i, .slice q j c, .slice sp m sc] #[.bool false, .bool x1, .bool x2, .bool x3, .bool x4, .bool false]) := ⟨S2.out.bel.trans (bel_alloc S2.out.bel.size _), ((bel_alloc (Nat.le_refl _) _).block _ (Array.getElem?_eq_some_iff.1 S2.out.box).1).trans S2.out.box, heap_alloc_new w2 _, LO.out, by have := (Array.getElem?_eq_some_iff.1 S2.out.box).1; omega⟩
      clear S2 LO
      generalize w2.alloc (.cells #[.bool false, .bool x1, .bool x2, .bool x3, .bool x4, .bool false] 41) = W at *
      generalize w2.heap.size = b13 at *
      go_wp2_with fail
      go_loopw [106] (fun iv wr => ∃ k : Nat, ∃ x0 : Int, k ≤ 6 ∧ iv = .int .i64 k ∧ Hid (K9 w wr b9 b13 #[.int .i64 x0, .int .i64 cl, .int .i64 i, .slice q j c, .slice sp m sc] #[.bool false, .bool x1, .bool x2, .bool x3, .bool x4, .bool false])) (fun iv _ => 6 - (intOf iv).toNat)
      case atStart => exact ⟨0, 0, by omega, rfl, HK⟩
      case round =>
        obtain ⟨k, x0, hk, rfl, HR⟩ := hrel
        clear HK
        by_cases hlt : k < 6
        · have k1 : (k : Int) < 6 := by omega
          have k0 : (0 : Int) ≤ (k : Int) := by omega
          have d0 : wr.cell? ⟨b9, 0, none⟩ = some (.int .i64 x0) := by rw [cell_of_row _ _ _ _ _ _ HR.out.box]; rfl
          have f0 : wr.frozen? ⟨b9, 0, none⟩ = false := frozen_of_row _ _ _ _ _ HR.out.box
          have HS : Hid (K9 w (wr.setCell ⟨b9, 0, none⟩ (.int .i64 (k : Nat))) b9 b13 #[.int .i64 (k : Nat), .int .i64 cl, .int .i64 i, .slice q j c, .slice sp m sc] #[.bool false, .bool x1, .bool x2, .bool x3, .bool x4, .bool false]) := HR.out.set _
          obtain ⟨xk, HXK⟩ : ∃ x, Hid (want b i j m k = x) := ⟨_, rfl⟩
          have HC := HC12 (wr.setCell ⟨b9, 0, none⟩ (.int .i64 (k : Nat))) k b9 b13 _ HS
          rw [HXK.out] at HC
          have HT : Hid ((#[.bool false, .bool x1, .bool x2, .bool x3, .bool x4, .bool false] : Array Value)[k]? = some (.bool xk)) := by
            show _ = _
            obtain rfl | rfl | rfl | rfl | rfl | rfl : k = 0 ∨ k = 1 ∨ k = 2 ∨ k = 3 ∨ k = 4 ∨ k = 5 := by omega
            · have : xk = false := HXK.out.symm; subst this; rfl
            · have : xk = x1 := HXK.out.symm.trans HX1.out; subst this; rfl
            · have : xk = x2 := HXK.out.symm.trans HX2.out; subst this; rfl
            · have : xk = x3 := HXK.out.symm.trans HX3.out; subst this; rfl
            · have : xk = x4 := HXK.out.symm.trans HX4.out; subst this; rfl
            · have : xk = false := HXK.out.symm; subst this; rfl
          go_upto_region 17 with fail
          clear d0 f0 HR
          generalize wr.setCell ⟨b9, 0, none⟩ (.int .i64 (k : Nat)) = wk at *
          have e0 : wk.cell? ⟨b9, 0, none⟩ = some (.int .i64 (k : Nat)) := by rw [cell_of_row _ _ _ _ _ _ HS.out.box]; rfl
          have e1 : wk.cell? ⟨b9, 1, none⟩ = some (.int .i64 cl) := by rw [cell_of_row _ _ _ _ _ _ HS.out.box]; rfl
          have e2 : wk.cell? ⟨b9, 2, none⟩ = some (.int .i64 i) := by rw [cell_of_row _ _ _ _ _ _ HS.out.box]; rfl
          have e3 : wk.cell? ⟨b9, 3, none⟩ = some (.slice q j c) := by rw [cell_of_row _ _ _ _ _ _ HS.out.box]; rfl
          have e4 : wk.cell? ⟨b9, 4, none⟩ = some (.slice sp m sc) := by rw [cell_of_row _ _ _ _ _ _ HS.out.box]; rfl
          go_cut [116] from 107 to 117 (fun v116 wx => v116 = .bool false ∧ Hid (K9 w wx b9 b13 #[.int .i64 (k : Nat), .int .i64 cl, .int .i64 i, .slice q j c, .slice sp m sc] #[.bool false, .bool x1, .bool x2, .bool x3, .bool x4, .bool false]))
          case first =>
            have HDR : Hid (∀ n, K9 w (wk.drewN n) b9 b13 #[.int .i64 (k : Nat), .int .i64 cl, .int .i64 i, .slice q j c, .slice sp m sc] #[.bool false, .bool x1, .bool x2, .bool x3, .bool x4, .bool false]) := fun n => HS.out.step (C8.below_drewN n _ _)
            have HC2 : ∀ W, Hid (K9 w W b9 b13 #[.int .i64 (k : Nat), .int .i64 cl, .int .i64 i, .slice q j c, .slice sp m sc] #[.bool false, .bool x1, .bool x2, .bool x3, .bool x4, .bool false]) → Calls Try.prog 12 #[.agg #[.int .i64 (k : Nat), .int .i64 cl, .int .i64 i, .slice q j c, .slice sp m sc]] W fun e w' => e = .returned (.bool xk) ∧ Hid (K9 w w' b9 b13 #[.int .i64 (k : Nat), .int .i64 cl, .int .i64 i, .slice q j c, .slice sp m sc] #[.bool false, .bool x1, .bool x2, .bool x3, .bool x4, .bool false]) ∧ w'.cell? ⟨b13, k, none⟩ = some (.bool xk) := fun W h => by
              have hh := HC12 W k b9 b13 _ h
              rw [HXK.out] at hh
              refine hh.mono ?_
              rintro e w' ⟨rfl, h2⟩
              exact ⟨rfl, h2, by rw [cell_of_row _ _ _ _ _ _ h2.out.tab]; exact HT.out⟩
            have e5 : wk.cell? ⟨b13, k, none⟩ = some (.bool xk) := by rw [cell_of_row _ _ _ _ _ _ HS.out.tab]; exact HT.out
            clear HC12 HC HT HXK HX1 HX2 HX3 HX4
            go_region_with (go_at_call 12; refine (HC2 _ (HDR.out 1)).mono ?_; rintro e w9 ⟨rfl, H9, e9⟩)
            all_goals go_wp2_with fail
            all_goals go_meet
            all_goals exact ⟨by first | rfl | simp, H9⟩
          case rest =>
          obtain ⟨rfl, HS2⟩ := hcut
          go_wp2_with fail
          refine ⟨⟨k + 1, k, by omega, by simp, HS2⟩, ?_⟩
          simp only [intOf]
          omega
        · obtain rfl : k = 6 := by omega
          have k1 : ¬ ((6 : Nat) : Int) < 6 := by omega
          go_wp2_with fail
          go_ret
          exact ⟨rfl, HR.out.bel⟩
theorem kinds_any (cl i : Int) (q : Option Addr) (n c : Nat) (sp : Option Addr) (m sc : Nat) (w : World) (h2 : n ≤ 9223372036854775807 ∧ ∃ ls : List (List Nat), ls.length = n ∧ LkRow w q ls) (h3 : RowIs w sp m sc) : Calls Try.prog 7 #[.int .i64 cl, .int .i64 i, .slice q n c, .slice sp m sc] w fun e w' => e = .returned (.bool true) ∧ Below w.heap.size w w' := by
  obtain ⟨hl, ls, rfl, hq⟩ := h2
  have hm := h3.max
  obtain ⟨t, rfl, ht⟩ := Src.of h3
  cases hs : small ⟨0, cl, i, ls, t⟩ with
  | false => exact kinds_e cl i q c sp sc ls t w hq ht hl hm hs
  | true => exact kinds_main cl i q c sp sc ls t w hq ht hl hm hs
end Go.Proofs.Ytmllecdbedighaa.F17
