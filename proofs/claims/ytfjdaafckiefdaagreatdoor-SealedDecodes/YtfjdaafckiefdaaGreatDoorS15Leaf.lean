/- Leaves of sealed: bounds, which records are right, the front, the nonce, two texts. -/
import Derived.Test.YtfjdaafckiefdaaGreatDoorS15Spec
import Derived.Test.YtfjdaafckiefdaaGreatDoorMgC
import Derived.Test.YtfjdaafckiefdaaGreatDoorR14Leaf
namespace Go.Proofs.YtfjdaafckiefdaaGreatDoor.S15
open Go.RowKit C8 E9
theorem hid {p : Prop} (h : p) : Hid p := h
/-- A record as a value: its five cells. -/
def RecV (r : Rec) (q : Option Addr) (c : Nat) : Array Value := #[.int .i64 r.coll, .int .i64 r.epoch, .int .i64 r.writer, .int .i64 r.count, .slice q r.box.length c]
set_option maxHeartbeats 1000000 in
theorem sw_yes (n lo hi : Int) (w : World) (h1 : lo ≤ n) (h2 : n ≤ hi) : Calls Tryz.prog 45 #[.int .i64 n, .int .i64 lo, .int .i64 hi] w fun e w' => e = .returned (.bool true) ∧ w' = w := by
  go_enter Tryz.func45, Tryz.ntmps45
  go_wp2_with fail
  go_ret
  exact ⟨rfl, rfl⟩
set_option maxHeartbeats 1000000 in
theorem sw_no (n lo hi : Int) (w : World) (h : n < lo ∨ hi < n) : Calls Tryz.prog 45 #[.int .i64 n, .int .i64 lo, .int .i64 hi] w fun e w' => e = .returned (.bool false) ∧ w' = w := by
  by_cases h1 : lo ≤ n
  · have h2 : ¬ n ≤ hi := by omega
    clear h
    go_enter Tryz.func45, Tryz.ntmps45
    go_wp2_with fail
    go_ret
    exact ⟨rfl, rfl⟩
  · clear h
    go_enter Tryz.func45, Tryz.ntmps45
    go_wp2_with fail
    go_ret
    exact ⟨rfl, rfl⟩
theorem sw_any (n lo hi : Int) (w : World) : Calls Tryz.prog 45 #[.int .i64 n, .int .i64 lo, .int .i64 hi] w fun e w' => e = .returned (.bool (decide (lo ≤ n ∧ n ≤ hi))) ∧ w' = w := by
  by_cases h : lo ≤ n ∧ n ≤ hi
  · rw [decide_eq_true h]; exact sw_yes n lo hi w h.1 h.2
  · rw [decide_eq_false h]; exact sw_no n lo hi w (by omega)
set_option maxHeartbeats 2000000 in
theorem rnum_any (r : Rec) (q : Option Addr) (c : Nat) (w : World) : Calls Tryz.prog 44 #[.agg (RecV r q c)] w fun e w' => e = .returned (.bool (rnum r)) ∧ Below w.heap.size w w' := by
  obtain ⟨a1, a2, a3, a4, a5⟩ := r
  have HB : Hid (∀ o1, Below w.heap.size w (w.alloc o1)) := fun o1 => (Below.refl _ w).alloc (Nat.le_refl _) o1
  obtain ⟨R, HR⟩ : ∃ R, Hid (rnum ⟨a1, a2, a3, a4, a5⟩ = R) := ⟨_, rfl⟩
  show Calls Tryz.prog _ _ w fun e w' => e = .returned (.bool (rnum ⟨a1, a2, a3, a4, a5⟩)) ∧ _
  rw [HR.out]
  obtain ⟨b1, H1⟩ : ∃ b, Hid (decide ((1 : Int) ≤ a1 ∧ a1 ≤ 1099511627776) = b) := ⟨_, rfl⟩
  obtain ⟨b2, H2⟩ : ∃ b, Hid (decide ((0 : Int) ≤ a2 ∧ a2 ≤ 16) = b) := ⟨_, rfl⟩
  obtain ⟨b3, H3⟩ : ∃ b, Hid (decide ((1 : Int) ≤ a3 ∧ a3 ≤ 16) = b) := ⟨_, rfl⟩
  obtain ⟨b4, H4⟩ : ∃ b, Hid (decide ((1 : Int) ≤ a4 ∧ a4 ≤ 1099511627776) = b) := ⟨_, rfl⟩
  have HQ : Hid (R = (b1 && (b2 && (b3 && b4)))) := by
    show R = _
    rw [← HR.out, ← H1.out, ← H2.out, ← H3.out, ← H4.out]
    simp only [rnum, Bool.decide_and]
  clear HR
  show Calls Tryz.prog _ #[.agg #[.int .i64 a1, .int .i64 a2, .int .i64 a3, .int .i64 a4, .slice q a5.length c]] w _
  generalize a5.length = n5 at *
  cases b1 with
  | false =>
    go_enter Tryz.func44, Tryz.ntmps44
    go_wp2_with (first | (go_at_call 45; refine (sw_any _ _ _ _).mono ?_; rintro e w1 ⟨he, rfl⟩; rw [H1.out] at he; subst he))
    go_ret
    exact ⟨by rw [HQ.out]; rfl, HB.out _⟩
  | true =>
    cases b2 with
    | false =>
      go_enter Tryz.func44, Tryz.ntmps44
      go_wp2_with (first | (go_at_call 45; refine (sw_any _ _ _ _).mono ?_; rintro e w1 ⟨he, rfl⟩; (first | rw [H1.out] at he | rw [H2.out] at he); subst he))
      go_ret
      exact ⟨by rw [HQ.out]; rfl, HB.out _⟩
    | true =>
      cases b3 with
      | false =>
        go_enter Tryz.func44, Tryz.ntmps44
        go_wp2_with (first | (go_at_call 45; refine (sw_any _ _ _ _).mono ?_; rintro e w1 ⟨he, rfl⟩; (first | rw [H1.out] at he | rw [H2.out] at he | rw [H3.out] at he); subst he))
        go_ret
        exact ⟨by rw [HQ.out]; rfl, HB.out _⟩
      | true =>
        go_enter Tryz.func44, Tryz.ntmps44
        go_wp2_with (first | (go_at_call 45; refine (sw_any _ _ _ _).mono ?_; rintro e w1 ⟨he, rfl⟩; (first | rw [H1.out] at he | rw [H2.out] at he | rw [H3.out] at he | rw [H4.out] at he); subst he))
        go_ret
        exact ⟨by rw [HQ.out]; rfl, HB.out _⟩
set_option maxHeartbeats 2000000 in
theorem rright_any (r : Rec) (q : Option Addr) (c : Nat) (w : World) : Calls Tryz.prog 11 #[.agg (RecV r q c)] w fun e w' => e = .returned (.bool (rright r)) ∧ Below w.heap.size w w' := by
  have HN : Hid (∀ w1, Calls Tryz.prog 44 #[.agg #[.int .i64 r.coll, .int .i64 r.epoch, .int .i64 r.writer, .int .i64 r.count, .slice q r.box.length c]] w1 fun e w' => e = .returned (.bool (rnum r)) ∧ Below w1.heap.size w1 w') := fun w1 => rnum_any r q c w1
  obtain ⟨R, HR⟩ : ∃ R, Hid (rright r = R) := ⟨_, rfl⟩
  obtain ⟨b1, H1⟩ : ∃ b, Hid (rnum r = b) := ⟨_, rfl⟩
  obtain ⟨b2, H2⟩ : ∃ b, Hid (decide ((80 : Int) ≤ (r.box.length : Int) ∧ (r.box.length : Int) ≤ 2064) = b) := ⟨_, rfl⟩
  have HQ : Hid (R = (b1 && b2)) := by
    show R = _
    rw [← HR.out, ← H1.out, ← H2.out]
    unfold rright
    congr 1
    rw [decide_eq_decide]
    omega
  rw [HR.out]
  rw [H1.out] at HN
  clear HR H1
  show Calls Tryz.prog _ #[.agg #[.int .i64 r.coll, .int .i64 r.epoch, .int .i64 r.writer, .int .i64 r.count, .slice q r.box.length c]] w _
  generalize r.box.length = n5 at *
  generalize r.coll = a1 at *
  generalize r.epoch = a2 at *
  generalize r.writer = a3 at *
  generalize r.count = a4 at *
  have HB : Hid (∀ o1 w', Below (w.alloc o1).heap.size (w.alloc o1) w' → Below w.heap.size w w') := fun o1 w' hb => ((Below.refl _ w).alloc (Nat.le_refl _) o1).trans (hb.mono (by simp))
  have HC : Hid (∀ cs w', Below (w.alloc (.cells cs 24)).heap.size (w.alloc (.cells cs 24)) w' → w'.heap[w.heap.size]? = some (.cells cs 24 (0, 0))) := fun cs w' hb => (hb.block w.heap.size (by simp)).trans (heap_alloc_new w _)
  cases b1 with
  | false =>
    go_enter Tryz.func11, Tryz.ntmps11
    go_wp2_with fail
    refine (HN.out _).mono ?_
    rintro e w1 ⟨rfl, hb⟩
    have HZ : Hid (Below w.heap.size w w1) := HB.out _ _ hb
    clear hb HN HC HB
    go_wp2_with fail
    go_ret
    exact ⟨by rw [HQ.out]; rfl, HZ.out⟩
  | true =>
    go_enter Tryz.func11, Tryz.ntmps11
    go_wp2_with fail
    refine (HN.out _).mono ?_
    rintro e w1 ⟨rfl, hb⟩
    have c4 : w1.cell? ⟨w.heap.size, 4, none⟩ = some (.slice q n5 c) := by rw [cell_of_row _ _ _ _ _ _ (HC.out _ _ hb)]; rfl
    have HZ : Hid (Below w.heap.size w w1) := HB.out _ _ hb
    clear hb HN HC HB
    go_wp2_with (first | (go_at_call 45; refine (sw_any _ _ _ _).mono ?_; rintro e w1 ⟨he, rfl⟩; rw [H2.out] at he; subst he))
    go_ret
    exact ⟨by rw [HQ.out]; rfl, HZ.out⟩
theorem parts_at (w : World) (vs : List Value) (ps : List Pt) (_hl : vs.length = ps.length)
    (h : ∀ j (hj : j < ps.length), ∃ v, vs[j]? = some v ∧ PartIs (w.alloc (.cells vs.toArray 20)) (w.alloc (.cells vs.toArray 20)).heap.size v ps[j]) :
    PartsIs (w.alloc (.cells vs.toArray 20)) (w.alloc (.cells vs.toArray 20)).heap.size (some ⟨w.heap.size, 0, none⟩) ps := by
  intro j hj
  obtain ⟨v, hv, hp⟩ := h j hj
  exact ⟨w.heap.size, 0, v, rfl, by simp, by rw [cell_of_row _ _ _ _ _ _ (heap_alloc_new w _), Nat.zero_add]; simpa using hv, hp⟩
/-- Put of parts that are right. -/
theorem put_at (w : World) (vs : List Value) (ps : List Pt) (hl : vs.length = ps.length) (h20 : ps.length ≤ 20) (he : Cd.err ps = 0)
    (h : ∀ w1, Below w.heap.size w w1 → w.heap.size < w1.heap.size → ∀ j (hj : j < ps.length), ∃ v, vs[j]? = some v ∧ PartIs w1 w1.heap.size v ps[j]) :
    Calls Tryz.prog 43 #[.slice (some ⟨w.heap.size, 0, none⟩) ps.length ps.length] (w.alloc (.cells vs.toArray 20)) fun e w' => ∃ v, e = .returned (.tuple #[v, .int .i64 0]) ∧ w'.ownsRow w.heap.size 5 1 v (Cd.enc ps).length (ints .u8 (Cd.enc ps)) ∧ Below w.heap.size w w' := by
  have hb := S7.below_alloc' w (.cells vs.toArray 20)
  refine (Put_any ps (some ⟨w.heap.size, 0, none⟩) ps.length _ h20 (parts_at w vs ps hl (h _ hb (by simp)))).mono ?_
  rintro e w' ⟨h1, ⟨_, v, h2, h3⟩ | ⟨h2, _⟩⟩
  · exact ⟨v, h2, S7.own_older h3 hb.size, hb.trans (h1.mono hb.size)⟩
  · exact absurd he h2
theorem part_num (w : World) (B : Nat) (n : Int) : PartIs w B (.iface 3 (.int .i64 n)) (num n) := ⟨(fun x hx => by cases hx), .inl ⟨rfl, rfl⟩⟩
theorem part_txt {w w1 : World} {v : Value} {l : List Nat} (h : Src w v l) (hl : l.length ≤ 100000) (hb : Below w.heap.size w w1) : PartIs w1 w1.heap.size (.iface 22 v) (txt l) :=
  ⟨h.small, .inr ⟨rfl, by show l.length ≤ _; omega, .inl ⟨v, rfl, h.below hb, fun h0 b hv => by
    obtain ⟨_, ⟨rfl, _⟩ | ⟨_, _, rfl, e⟩ | ⟨b', o, c, rfl, _, hr⟩⟩ := h
    · cases hv
    · exact absurd e h0
    · cases hv
      exact Nat.lt_of_lt_of_le (range_lt hr (by intro e; apply h0; have := congrArg List.length e; rw [ints_length] at this; exact List.eq_nil_of_length_eq_zero this)) hb.size⟩⟩⟩
theorem put4 (w : World) (r : Rec) (he : rnum r = true) :
    Calls Tryz.prog 43 #[.slice (some ⟨w.heap.size, 0, none⟩) 4 4] (w.alloc (.cells #[.iface 3 (.int .i64 r.coll), .iface 3 (.int .i64 r.epoch), .iface 3 (.int .i64 r.writer), .iface 3 (.int .i64 r.count)] 20)) fun e w' => ∃ v, e = .returned (.tuple #[v, .int .i64 0]) ∧ w'.ownsRow w.heap.size 5 1 v 24 (ints .u8 (rfront r)) ∧ Below w.heap.size w w' := by
  have h := put_at w [.iface 3 (.int .i64 r.coll), .iface 3 (.int .i64 r.epoch), .iface 3 (.int .i64 r.writer), .iface 3 (.int .i64 r.count)] (fpts r) rfl (by simp [fpts]) (rnum_err he) (fun w1 _ _ j hj => by
    have hj' : j < 4 := hj
    obtain rfl | rfl | rfl | rfl : j = 0 ∨ j = 1 ∨ j = 2 ∨ j = 3 := by omega
    · exact ⟨_, rfl, part_num _ _ _⟩
    · exact ⟨_, rfl, part_num _ _ _⟩
    · exact ⟨_, rfl, part_num _ _ _⟩
    · exact ⟨_, rfl, part_num _ _ _⟩)
  have hl := rfront_length r
  unfold rfront at hl
  rw [hl] at h
  exact h
theorem put5 (w : World) (r : Rec) (v : Value) (hv : Src w v r.box) (he : rright r = true) :
    Calls Tryz.prog 43 #[.slice (some ⟨w.heap.size, 0, none⟩) 5 5] (w.alloc (.cells #[.iface 3 (.int .i64 r.coll), .iface 3 (.int .i64 r.epoch), .iface 3 (.int .i64 r.writer), .iface 3 (.int .i64 r.count), .iface 22 v] 20)) fun e w' => ∃ v, e = .returned (.tuple #[v, .int .i64 0]) ∧ w'.ownsRow w.heap.size 5 1 v (rbytes r).length (ints .u8 (rbytes r)) ∧ Below w.heap.size w w' :=
  put_at w [.iface 3 (.int .i64 r.coll), .iface 3 (.int .i64 r.epoch), .iface 3 (.int .i64 r.writer), .iface 3 (.int .i64 r.count), .iface 22 v] (rpts r) rfl (by simp [rpts]) (rright_err he) (fun w1 hb _ j hj => by
    have hj' : j < 5 := hj
    obtain rfl | rfl | rfl | rfl | rfl : j = 0 ∨ j = 1 ∨ j = 2 ∨ j = 3 ∨ j = 4 := by omega
    · exact ⟨_, rfl, part_num _ _ _⟩
    · exact ⟨_, rfl, part_num _ _ _⟩
    · exact ⟨_, rfl, part_num _ _ _⟩
    · exact ⟨_, rfl, part_num _ _ _⟩
    · exact ⟨_, rfl, part_txt hv (by have := ((rright_iff r).1 he).2; omega) hb⟩)
/-- Two texts, as they are put into a bucket. -/
def twoL (a b : List Nat) : List Nat := Cd.enc [txt a, txt b]
theorem twoL_length (a b : List Nat) : (twoL a b).length = a.length + b.length + 4 := by
  unfold twoL
  simp only [Cd.enc, one_txt, List.length_append, Cd.be_length, List.length_nil]
  omega
theorem putT (w : World) (a b : List Nat) (v u : Value) (hv : Src w v a) (hu : Src w u b) (ha : a.length ≤ 4096) (hb0 : b.length ≤ 4096) :
    Calls Tryz.prog 43 #[.slice (some ⟨w.heap.size, 0, none⟩) 2 2] (w.alloc (.cells #[.iface 22 v, .iface 22 u] 20)) fun e w' => ∃ v, e = .returned (.tuple #[v, .int .i64 0]) ∧ w'.ownsRow w.heap.size 5 1 v (a.length + b.length + 4) (ints .u8 (twoL a b)) ∧ Below w.heap.size w w' := by
  have h := put_at w [.iface 22 v, .iface 22 u] [txt a, txt b] rfl (by simp) (err_cons (wrong_txt ha) (err_cons (wrong_txt hb0) rfl)) (fun w1 hb _ j hj => by
    have hj' : j < 2 := hj
    obtain rfl | rfl : j = 0 ∨ j = 1 := by omega
    · exact ⟨_, rfl, part_txt hv (by omega) hb⟩
    · exact ⟨_, rfl, part_txt hu (by omega) hb⟩)
  have hl := twoL_length a b
  unfold twoL at hl
  rw [hl] at h
  exact h
/-- What is marked: the collection's number and the text of an entry's bytes. -/
def markL (n : Int) (b : List Nat) : List Nat := Cd.enc [num n, txt b]
theorem markL_length (n : Int) (b : List Nat) : (markL n b).length = b.length + 8 := by
  unfold markL
  simp only [Cd.enc, one_num, one_txt, List.length_append, Cd.be_length, List.length_nil]
  omega
theorem markL_small (n : Int) {b : List Nat} (h : ∀ x ∈ b, x < 256) : ∀ x ∈ markL n b, x < 256 := by
  refine Cd.enc_lt fun p hp => ?_
  simp only [List.mem_cons, List.not_mem_nil, or_false] at hp
  rcases hp with rfl | rfl
  · intro x hx; cases hx
  · exact h
theorem twoL_small {a b : List Nat} (h : ∀ x ∈ a, x < 256) (h' : ∀ x ∈ b, x < 256) : ∀ x ∈ twoL a b, x < 256 := by
  refine Cd.enc_lt fun p hp => ?_
  simp only [List.mem_cons, List.not_mem_nil, or_false] at hp
  rcases hp with rfl | rfl
  · exact h
  · exact h'
theorem putM (w : World) (n : Int) (b : List Nat) (u : Value) (hu : Src w u b) (h0 : 0 ≤ n) (h1 : n ≤ 1099511627776) (hb0 : b.length ≤ 4096) :
    Calls Tryz.prog 43 #[.slice (some ⟨w.heap.size, 0, none⟩) 2 2] (w.alloc (.cells #[.iface 3 (.int .i64 n), .iface 22 u] 20)) fun e w' => ∃ v, e = .returned (.tuple #[v, .int .i64 0]) ∧ w'.ownsRow w.heap.size 5 1 v (b.length + 8) (ints .u8 (markL n b)) ∧ Below w.heap.size w w' := by
  have h := put_at w [.iface 3 (.int .i64 n), .iface 22 u] [num n, txt b] rfl (by simp) (err_cons (wrong_num h0 h1) (err_cons (wrong_txt hb0) rfl)) (fun w1 hb _ j hj => by
    have hj' : j < 2 := hj
    obtain rfl | rfl : j = 0 ∨ j = 1 := by omega
    · exact ⟨_, rfl, part_num _ _ _⟩
    · exact ⟨_, rfl, part_txt hu (by omega) hb⟩)
  have hl := markL_length n b
  unfold markL at hl
  rw [hl] at h
  exact h
/-- The record stands in its box. -/
theorem rec_cells {w : World} {b : Nat} {a1 a2 a3 a4 : Int} {v : Value} (h : w.heap[b]? = some (.cells #[.int .i64 a1, .int .i64 a2, .int .i64 a3, .int .i64 a4, v] 24 (0, 0))) :
    w.cell? ⟨b, 0, none⟩ = some (.int .i64 a1) ∧ w.cell? ⟨b, 1, none⟩ = some (.int .i64 a2) ∧ w.cell? ⟨b, 2, none⟩ = some (.int .i64 a3) ∧ w.cell? ⟨b, 3, none⟩ = some (.int .i64 a4) ∧ w.cell? ⟨b, 4, none⟩ = some v ∧ ∀ i, w.frozen? ⟨b, i, none⟩ = false := by
  refine ⟨?_, ?_, ?_, ?_, ?_, fun i => frozen_of_row _ _ _ _ _ h⟩ <;> (rw [cell_of_row _ _ _ _ _ _ h]; rfl)
set_option maxHeartbeats 2000000 in
theorem front_any (r : Rec) (q : Option Addr) (c : Nat) (w : World) (he : rnum r = true) : Calls Tryz.prog 65 #[.agg (RecV r q c)] w fun e w' => ∃ v, e = .returned v ∧ w'.ownsRow w.heap.size 5 1 v 24 (ints .u8 (rfront r)) ∧ Below w.heap.size w w' := by
  have hb0 := S7.below_alloc' w (.cells (RecV r q c) 24)
  have HP : Hid (Calls Tryz.prog 43 #[.slice (some ⟨(w.alloc (.cells (RecV r q c) 24)).heap.size, 0, none⟩) 4 4] ((w.alloc (.cells (RecV r q c) 24)).alloc (.cells #[.iface 3 (.int .i64 r.coll), .iface 3 (.int .i64 r.epoch), .iface 3 (.int .i64 r.writer), .iface 3 (.int .i64 r.count)] 20)) fun e w' => ∃ v, e = .returned (.tuple #[v, .int .i64 0]) ∧ w'.ownsRow w.heap.size 5 1 v 24 (ints .u8 (rfront r)) ∧ Below w.heap.size w w') := by
    refine (put4 _ r he).mono ?_
    rintro e w' ⟨v, h1, h2, h3⟩
    exact ⟨v, h1, S7.own_older h2 hb0.size, hb0.trans (h3.mono hb0.size)⟩
  have hc := rec_cells (heap_alloc_new w (.cells (RecV r q c) 24))
  obtain ⟨c0, c1, c2, c3, c4, -⟩ := hc
  unfold RecV at *
  generalize r.box.length = n5 at *
  generalize hW : w.alloc (.cells #[.int .i64 r.coll, .int .i64 r.epoch, .int .i64 r.writer, .int .i64 r.count, .slice q n5 c] 24) = W at *
  have hz : W.heap.size = w.heap.size + 1 := by rw [← hW]; simp
  rw [hz] at HP
  go_enter Tryz.func65, Tryz.ntmps65
  clear hb0 he
  go_wp2_with fail
  refine HP.out.mono ?_
  rintro e w1 ⟨v, rfl, ho, hb⟩
  have HZ : Hid (w1.ownsRow w.heap.size 5 1 v 24 (ints .u8 (rfront r)) ∧ Below w.heap.size w w1) := ⟨ho, hb⟩
  clear ho hb HP
  go_wp2_with fail
  go_ret
  exact ⟨_, rfl, HZ.out⟩
set_option maxHeartbeats 2000000 in
theorem nonce_any (r : Rec) (q : Option Addr) (c : Nat) (w : World) (he : rnum r = true) : Calls Tryz.prog 64 #[.agg (RecV r q c)] w fun e w' => ∃ v, e = .returned v ∧ w'.ownsRow w.heap.size 5 1 v 12 (ints .u8 (S7.non r.writer.toNat r.count.toNat)) ∧ Below w.heap.size w w' := by
  have hb0 := S7.below_alloc' w (.cells (RecV r q c) 24)
  obtain ⟨-, -, n3, n4⟩ := (rnum_iff r).1 he
  have HP : Hid (Calls Tryz.prog 107 #[.int .i64 r.writer, .int .i64 r.count] (w.alloc (.cells (RecV r q c) 24)) fun e w' => ∃ v, e = .returned (.tuple #[v, .int .i64 0]) ∧ w'.ownsRow w.heap.size 5 1 v 12 (ints .u8 (S7.non r.writer.toNat r.count.toNat)) ∧ Below w.heap.size w w') := by
    have h := S7.Nonce_ok (w.alloc (.cells (RecV r q c) 24)) r.writer.toNat r.count.toNat (by omega) (by omega)
    rw [Int.toNat_of_nonneg (by omega), Int.toNat_of_nonneg (by omega)] at h
    refine h.mono ?_
    rintro e w' ⟨v, h1, h2, h3⟩
    exact ⟨v, h1, S7.own_older h2 hb0.size, hb0.trans (h3.mono hb0.size)⟩
  have hc := rec_cells (heap_alloc_new w (.cells (RecV r q c) 24))
  obtain ⟨c0, c1, c2, c3, c4, -⟩ := hc
  unfold RecV at *
  generalize r.box.length = n5 at *
  generalize S7.non r.writer.toNat r.count.toNat = nn at *
  generalize hW : w.alloc (.cells #[.int .i64 r.coll, .int .i64 r.epoch, .int .i64 r.writer, .int .i64 r.count, .slice q n5 c] 24) = W at *
  go_enter Tryz.func64, Tryz.ntmps64
  clear hb0 he n3 n4
  go_wp2_with fail
  refine HP.out.mono ?_
  rintro e w1 ⟨v, rfl, ho, hb⟩
  have HZ : Hid (w1.ownsRow w.heap.size 5 1 v 12 (ints .u8 nn) ∧ Below w.heap.size w w1) := ⟨ho, hb⟩
  clear ho hb HP
  go_wp2_with fail
  go_ret
  exact ⟨_, rfl, HZ.out⟩
theorem two_any (a b : List Nat) (v u : Value) (w : World) (hv : Src w v a) (hu : Src w u b) (ha : a.length ≤ 4096) (hb0 : b.length ≤ 4096) : Calls Tryz.prog 62 #[v, u] w fun e w' => ∃ x, e = .returned x ∧ w'.ownsRow w.heap.size 5 1 x (a.length + b.length + 4) (ints .u8 (twoL a b)) ∧ Below w.heap.size w w' := by
  have HP : Hid (Calls Tryz.prog 43 #[.slice (some ⟨w.heap.size, 0, none⟩) 2 2] (w.alloc (.cells #[.iface 22 v, .iface 22 u] 20)) fun e w' => ∃ v, e = .returned (.tuple #[v, .int .i64 0]) ∧ w'.ownsRow w.heap.size 5 1 v (a.length + b.length + 4) (ints .u8 (twoL a b)) ∧ Below w.heap.size w w') := putT w a b v u hv hu ha hb0
  obtain ⟨vq, vc, rfl, -⟩ := hv.slice
  obtain ⟨uq, uc, rfl, -⟩ := hu.slice
  clear hv hu ha hb0
  generalize twoL a b = z at *
  generalize a.length + b.length + 4 = zl at *
  generalize a.length = al at *
  generalize b.length = bl at *
  go_enter Tryz.func62, Tryz.ntmps62
  go_wp2_with fail
  refine HP.out.mono ?_
  rintro e w1 ⟨x, rfl, ho, hb⟩
  have HZ : Hid (w1.ownsRow w.heap.size 5 1 x zl (ints .u8 z) ∧ Below w.heap.size w w1) := ⟨ho, hb⟩
  clear ho hb HP
  go_wp2_with fail
  go_ret
  exact ⟨_, rfl, HZ.out⟩
end Go.Proofs.YtfjdaafckiefdaaGreatDoor.S15
