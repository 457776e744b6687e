/- The contracts of addSplit, addNumber, addText, addPart and Put. -/
import Derived.Test.YtchoiioeeepoaaaC8Grow
namespace Go.Proofs.Ytchoiioeeepoaaa.C8
open Go.RowKit
set_option maxHeartbeats 1000000 in
theorem addSplit_any (l : List Nat) (v : Value) (n base m k : Nat) (w : World) (hown : w.ownsRow base 5 1 v n (ints .u8 l)) (hn : n ≤ 90000) (hbase : base ≤ w.heap.size) (_ : m < 4611686018427387904) (hk : k ≤ 6) :
    Calls Try.prog 62 #[v, .int .i64 (m : Int), .int .i64 (k : Int)] w fun e w' => ∃ v', e = .returned v' ∧ w'.ownsRow base 5 1 v' (n + k) (ints .u8 (l ++ Cd.be k m)) ∧ Grow v v' w w' := by
  have HO0 : Hid (w.ownsRow base 5 1 v n (ints .u8 l)) := hown
  have HBS : Hid (base ≤ w.heap.size) := hbase
  have HEL : Hid ((Cd.be k m).length = k) := Cd.be_length k m
  have HEN : Hid (∀ i, i < k → Sp.nth (Cd.be k m) i = m / 256 ^ (k - 1 - i) % 256) := fun i hi => be_nth k i m hi
  obtain ⟨E, hE⟩ : ∃ E, Cd.be k m = E := ⟨_, rfl⟩
  rw [hE] at HEL HEN ⊢
  clear hown hbase hE
  obtain ⟨q0, c0, rfl⟩ := own_slice HO0.out
  go_enter Try.func62, Try.ntmps62
  go_wp2_with fail
  go_loopw [0, 7] (fun sl u wr => ∃ i : Nat, i ≤ k ∧ u = .int .i64 ((k : Int) - 1 - i) ∧ Hid (wr.ownsRow base 5 1 sl (n + i) (ints .u8 (l ++ E.take i))) ∧ Hid (Grow (.slice q0 n c0) sl w wr)) (fun _ u _ => (intOf u + 1).toNat)
  case atStart =>
    have h0 : w.ownsRow base 5 1 (.slice q0 n c0) (n + 0) (ints .u8 (l ++ E.take 0)) := by simpa using HO0.out
    exact ⟨0, by omega, by simp, h0, Grow.refl _ _⟩
  case round =>
    obtain ⟨i, hi, rfl, HO, HW⟩ := hrel
    obtain ⟨q, cq, rfl⟩ := own_slice HO.out
    have HB2 : Hid (base ≤ wr.heap.size) := Nat.le_trans HBS.out HW.out.size
    by_cases hlt : i < k
    · have HTS : Hid (E.take (i + 1) = E.take i ++ [Sp.nth E i]) := take_succ_nth (by rw [HEL.out]; exact hlt)
      obtain ⟨p, HP⟩ : ∃ p : Nat, Hid (k = i + 1 + p) := ⟨k - 1 - i, by show _ = _; omega⟩
      have hp : (k : Int) - 1 - (i : Int) = (p : Int) := by have := HP.out; omega
      rw [hp]
      have HEI0 : Hid (Sp.nth E i = m / 256 ^ p % 256) := by
        have := HEN.out i hlt
        rwa [show k - 1 - i = p from by have := HP.out; omega] at this
      have p0 : (0 : Int) ≤ (p : Int) := by omega
      have p6 : (p : Int) < 6 := by have := HP.out; omega
      have HPI : Hid ((p : Int) - 1 = (k : Int) - 1 - ((i + 1 : Nat) : Int)) := by show _ = _; have := HP.out; omega
      clear hp
      go_wp2_with (first | with_reducible (refine stop_builtin .append ?_))
      refine Stop.go ?_
      have HEI : Sp.nth E i < 256 := by rw [HEI0.out]; exact Nat.mod_lt _ (by decide)
      rw [shr_byte HEI0.out]
      generalize Sp.nth E i = x at *
      have HO2 : Hid ((wr.alloc (Obj.cells #[.int .u8 (x : Int)] 5)).ownsRow base 5 1 (.slice q (n + i) cq) (n + i) (ints .u8 (l ++ E.take i))) := ownsRow_alloc HO.out _
      have HW2 : Hid (Grow (.slice q0 n c0) (.slice q (n + i) cq) w (wr.alloc (Obj.cells #[.int .u8 (x : Int)] 5))) := HW.out.alloc _
      refine law_append_grow base _ (n + i) (l ++ E.take i) (.slice (some ⟨wr.heap.size, 0, none⟩) 1 1) [x] rfl rfl HO2.out (one_src wr x HEI) (by simp; omega) (by have := HB2.out; simp; omega) ?_
      intro v' w' hown' hg'
      have HO3 : Hid (w'.ownsRow base 5 1 v' (n + (i + 1)) (ints .u8 (l ++ E.take (i + 1)))) := by
        rw [HTS.out, ← List.append_assoc]
        exact hown'
      have HW3 : Hid (Grow (.slice q0 n c0) v' w w') := HW2.out.trans hg'
      clear hown' hg' HO HW HO2 HW2 HTS
      go_wp2_with fail
      go_roundw
      case rel =>
        first
          | exact ⟨i + 1, by omega, by rw [← HPI.out], HO3.out, HW3.out⟩
          | ((repeat apply Exists.intro)
             refine ⟨⟨i + 1, by omega, ?_, HO3.out, HW3.out⟩, rfl⟩
             rw [← HPI.out])
      case measure => simp [intOf]
    · obtain rfl : i = k := by omega
      have h1 := HO.out
      rw [List.take_of_length_le (by rw [HEL.out]; exact Nat.le_refl _)] at h1
      have HO1 : Hid (wr.ownsRow base 5 1 (.slice q (n + i) cq) (n + i) (ints .u8 (l ++ E))) := h1
      clear h1 HO
      have e0 : (i : Int) - 1 - (i : Int) = -1 := by omega
      rw [e0]
      clear e0
      go_wp2_with fail
      go_ret
      exact ⟨_, rfl, HO1.out, HW.out⟩
set_option maxHeartbeats 1000000 in
theorem addNumber_ok (l : List Nat) (v : Value) (n base m : Nat) (w : World) (hown : w.ownsRow base 5 1 v n (ints .u8 l)) (hn : n ≤ 90000) (hbase : base ≤ w.heap.size) (hm : m ≤ 1099511627776) :
    Calls Try.prog 60 #[v, .int .i64 (m : Int)] w fun e w' => ∃ v', e = .returned (.tuple #[v', .int .i64 0]) ∧ w'.ownsRow base 5 1 v' (n + 6) (ints .u8 (l ++ Cd.be 6 m)) ∧ Grow v v' w w' := by
  have HO0 : Hid (w.ownsRow base 5 1 v n (ints .u8 l)) := hown
  have HBS : Hid (base ≤ w.heap.size) := hbase
  have HM : Hid (m < 4611686018427387904) := by show _ < _; omega
  have m0 : (0 : Int) ≤ (m : Int) := by omega
  have m1 : (m : Int) ≤ 1099511627776 := by omega
  clear hown hbase
  go_enter Try.func60, Try.ntmps60
  go_wp2_with (first | (go_at_call 62; refine (addSplit_any l v n base m 6 _ HO0.out hn HBS.out HM.out (by decide)).mono ?_; rintro e w1 ⟨v1, rfl, h1, h2⟩; have HO1 : Hid (w1.ownsRow base 5 1 v1 (n + 6) (ints .u8 (l ++ Cd.be 6 m))) := h1; have HG1 : Hid (Grow v v1 w w1) := h2; clear h1 h2))
  go_ret2
  exact ⟨_, rfl, HO1.out, HG1.out⟩
set_option maxHeartbeats 1000000 in
theorem addNumber_bad (v : Value) (m : Int) (w : World) (hm : m < 0 ∨ 1099511627776 < m) :
    Calls Try.prog 60 #[v, .int .i64 m] w fun e w' => e = .returned (.tuple #[.slice none 0 0, .int .i64 12]) ∧ w' = w := by
  rcases hm with h | h
  · go_enter Try.func60, Try.ntmps60
    go_wp2_with fail
    go_ret2
    exact ⟨rfl, rfl⟩
  · have h0 : ¬ m < 0 := by omega
    go_enter Try.func60, Try.ntmps60
    go_wp2_with fail
    go_ret2
    exact ⟨rfl, rfl⟩
set_option maxHeartbeats 1000000 in
theorem addText_ok (l : List Nat) (v : Value) (n base : Nat) (sv : Value) (t : List Nat) (w : World) (hown : w.ownsRow base 5 1 v n (ints .u8 l)) (hn : n ≤ 80000) (hbase : base ≤ w.heap.size) (hs : Src w sv t) (ht : t.length ≤ 4096) (ho : t ≠ [] → ∀ b, sv.ownBlock = some b → v.ownBlock ≠ some b) :
    Calls Try.prog 61 #[v, sv] w fun e w' => ∃ v', e = .returned (.tuple #[v', .int .i64 0]) ∧ w'.ownsRow base 5 1 v' (n + 2 + t.length) (ints .u8 (l ++ Cd.be 2 t.length ++ t)) ∧ Grow v v' w w' := by
  have HO0 : Hid (w.ownsRow base 5 1 v n (ints .u8 l)) := hown
  have HBS : Hid (base ≤ w.heap.size) := hbase
  have HT : Hid (t.length < 4611686018427387904) := by show _ < _; omega
  have HS : Hid (Src w sv t) := hs
  have HF : Hid (t ≠ [] → ∀ b, sv.ownBlock = some b → v.ownBlock ≠ some b) := ho
  obtain ⟨sp, sc, rfl, -⟩ := hs.slice
  have t0 : (t.length : Int) ≤ 4096 := by omega
  clear hown hbase ho hs
  go_enter Try.func61, Try.ntmps61
  go_wp2_with (first | (go_at_call 62; refine (addSplit_any l v n base t.length 2 _ HO0.out (by omega) HBS.out HT.out (by decide)).mono ?_; rintro e w1 ⟨v1, rfl, h1, h2⟩; have HO1 : Hid (w1.ownsRow base 5 1 v1 (n + 2) (ints .u8 (l ++ Cd.be 2 t.length))) := h1; have HG1 : Hid (Grow v v1 w w1) := h2; clear h1 h2) | with_reducible (refine stop_builtin .append ?_))
  refine Stop.go ?_
  have hs1 : Src w1 (.slice sp t.length sc) t := HG1.out.src HS.out HF.out
  refine law_append_grow base v1 (n + 2) (l ++ Cd.be 2 t.length) (.slice sp t.length sc) t rfl rfl HO1.out hs1 (by omega) (Nat.le_trans HBS.out HG1.out.size) ?_
  intro v2 w2 h1 h2
  have HO2 : Hid (w2.ownsRow base 5 1 v2 (n + 2 + t.length) (ints .u8 (l ++ Cd.be 2 t.length ++ t))) := h1
  have HG2 : Hid (Grow v v2 w w2) := HG1.out.trans h2
  clear h1 h2 hs1 HO1 HG1
  go_wp2_with fail
  go_ret2
  exact ⟨_, rfl, HO2.out, HG2.out⟩
set_option maxHeartbeats 1000000 in
theorem addText_bad (v : Value) (sp : Option Addr) (n sc : Nat) (w : World) (hn : 4096 < n) (hm : n ≤ 9223372036854775807) :
    Calls Try.prog 61 #[v, .slice sp n sc] w fun e w' => e = .returned (.tuple #[.slice none 0 0, .int .i64 11]) ∧ w' = w := by
  have t0 : (4096 : Int) < (n : Int) := by omega
  go_enter Try.func61, Try.ntmps61
  go_wp2_with fail
  go_ret2
  exact ⟨rfl, rfl⟩
end Go.Proofs.Ytchoiioeeepoaaa.C8
