/- The walk of CodeNumbers. -/
import Derived.Test.YtcpojjhopbcjkaaC8Anchor
namespace Go.Proofs.Ytcpojjhopbcjkaa.C8
open Go.RowKit
theorem val_cons (x : Nat) (r : List Nat) : Cd.val (x :: r) = x * 256 ^ r.length + Cd.val r := by
  have key : ∀ (l : List Nat) (a : Nat), l.foldl (fun a x => a * 256 + x) a = a * 256 ^ l.length + l.foldl (fun a x => a * 256 + x) 0 := by
    intro l
    induction l with
    | nil => intro a; simp
    | cons y s ih =>
      intro a
      simp only [List.foldl_cons, List.length_cons]
      rw [ih (a * 256 + y), ih (0 * 256 + y), Nat.pow_succ, Nat.add_mul, Nat.mul_assoc, Nat.mul_comm 256]
      simp [Nat.add_assoc]
  simpa [Cd.val] using key r x
theorem less_val : ∀ (l m : List Nat), l.length = m.length → (∀ x ∈ l, x < 256) → (∀ x ∈ m, x < 256) → Op.bytesLess (l.map UInt8.ofNat) (m.map UInt8.ofNat) = decide (Cd.val l < Cd.val m)
  | [], [], _, _, _ => by simp [Op.bytesLess, Cd.val]
  | x :: r, y :: s, hl, h1, h2 => by
    have hl' : r.length = s.length := by simpa using hl
    have ih := less_val r s hl' (fun z hz => h1 z (by simp [hz])) (fun z hz => h2 z (by simp [hz]))
    have hx := h1 x (by simp)
    have hy := h2 y (by simp)
    have vr := Cd.val_lt r (fun z hz => h1 z (by simp [hz]))
    have vs := Cd.val_lt s (fun z hz => h2 z (by simp [hz]))
    simp only [List.map_cons, Op.bytesLess]
    rw [ih, val_cons, val_cons, ← hl']
    rw [← hl'] at vs
    generalize 256 ^ r.length = P at *
    have e1 : (UInt8.ofNat x < UInt8.ofNat y) ↔ x < y := by
      rw [UInt8.lt_iff_toNat_lt]; simp [Nat.mod_eq_of_lt hx, Nat.mod_eq_of_lt hy]
    rcases Nat.lt_trichotomy x y with h | h | h
    · have e2 : x * P + Cd.val r < y * P + Cd.val s := by
        have := Nat.mul_le_mul_right P (Nat.succ_le_of_lt h)
        rw [Nat.succ_mul] at this
        omega
      simp [e1.2 h, e2]
    · subst h
      simp [Nat.add_lt_add_iff_left]
    · have e2 : ¬ (x * P + Cd.val r < y * P + Cd.val s) := by
        have := Nat.mul_le_mul_right P (Nat.succ_le_of_lt h)
        rw [Nat.succ_mul] at this
        omega
      have e3 : ¬ (UInt8.ofNat x < UInt8.ofNat y) := fun c => by have := e1.1 c; omega
      have e4 : ¬ (UInt8.ofNat x = UInt8.ofNat y) := fun c => by have := ofNat_inj hx hy c; omega
      simp [e3, e4, e2]
  | [], _ :: _, h, _, _ => by simp at h
  | _ :: _, [], h, _, _ => by simp at h
theorem val6 {n : Nat} (h : n < 281474976710656) : Cd.val ((Cd.be 6 n).take 6) = n := by
  rw [List.take_of_length_le (by rw [Cd.be_length]; omega), Cd.val_be, Nat.mod_eq_of_lt h]
theorem lss_be {m n : Nat} (hm : m < 281474976710656) (hn : n < 281474976710656) : Op.bytesLess (strB (Cd.be 6 m)).toList (strB (Cd.be 6 n)).toList = decide (m < n) := by
  have h := less_val (Cd.be 6 m) (Cd.be 6 n) (by rw [Cd.be_length, Cd.be_length]) (Cd.be_lt 6 m) (Cd.be_lt 6 n)
  rw [Cd.val_be, Cd.val_be, Nat.mod_eq_of_lt hm, Nat.mod_eq_of_lt hn, ← strB_list, ← strB_list] at h
  rw [ByteArray.toList_eq, ByteArray.toList_eq, h]
theorem off_old {w : World} {v : Value} {l : List Nat} {p : Nat} (h : Src w v l) (hp : w.heap.size ≤ p) (h0 : l ≠ [] := by simp [Cd.be]) : Off v [p] := by
  obtain ⟨_, ⟨rfl, rfl⟩ | ⟨ad, c, rfl, rfl⟩ | ⟨b, o, c, rfl, _, hr⟩⟩ := h
  · exact absurd rfl h0
  · exact absurd rfl h0
  · refine Off.at (ad := ⟨b, o, none⟩) (fun e => ?_)
    have := range_lt hr (fun e => h0 (by have := congrArg List.length e; rw [ints_length] at this; exact List.eq_nil_of_length_eq_zero this))
    simp at e
    omega
theorem put_ok (x : Int) (w : World) (hx : 0 ≤ x ∧ x ≤ 1099511627776) : Calls Try.prog 23 #[.slice (some ⟨w.heap.size, 0, none⟩) 1 1] (w.alloc (.cells #[.iface 3 (.int .i64 x)] 20)) fun e w' => ∃ v, e = .returned (.tuple #[v, .int .i64 0]) ∧ Src w' v (Cd.be 6 x.toNat) ∧ Below w.heap.size w w' := by
  have h0 := heap_alloc_new w (.cells #[.iface 3 (.int .i64 x)] 20)
  refine (Put_any [⟨false, x, []⟩] _ 1 _ (by simp) (fun j hj => ?_)).mono ?_
  · match j, hj with
    | 0, _ => exact ⟨_, _, _, rfl, by simp, by rw [cell_of_row _ _ _ _ _ _ h0]; rfl, (fun x hx => by cases hx), .inl ⟨rfl, rfl⟩⟩
  · intro e w' h
    have hw : Cd.wrong ⟨false, x, []⟩ = 0 := by simp [Cd.wrong]; omega
    obtain ⟨v, rfl, h1, h2⟩ := h.ok (by simp [Cd.err, hw])
    refine ⟨v, rfl, ?_, ((Below.refl _ w).alloc (Nat.le_refl _) _).trans (bel_le h2 (by simp))⟩
    have he : Cd.enc [⟨false, x, []⟩] = Cd.be 6 x.toNat := by simp [Cd.enc, Cd.one]
    rw [he] at h1
    exact Src.own (Cd.be_lt _ _) h1
theorem put_bad (x : Int) (w : World) (hx : x < 0 ∨ 1099511627776 < x) : Calls Try.prog 23 #[.slice (some ⟨w.heap.size, 0, none⟩) 1 1] (w.alloc (.cells #[.iface 3 (.int .i64 x)] 20)) fun e w' => e = .returned (.tuple #[.slice none 0 0, .int .i64 12]) ∧ Below w.heap.size w w' := by
  have h0 := heap_alloc_new w (.cells #[.iface 3 (.int .i64 x)] 20)
  refine (Put_any [⟨false, x, []⟩] _ 1 _ (by simp) (fun j hj => ?_)).mono ?_
  · match j, hj with
    | 0, _ => exact ⟨_, _, _, rfl, by simp, by rw [cell_of_row _ _ _ _ _ _ h0]; rfl, (fun x hx => by cases hx), .inl ⟨rfl, rfl⟩⟩
  · intro e w' h
    have hw : Cd.wrong ⟨false, x, []⟩ = 12 := by simp [Cd.wrong]; omega
    have he : Cd.err [⟨false, x, []⟩] = 12 := by simp [Cd.err, hw]
    obtain ⟨h1, h2⟩ := h.bad (by rw [he]; decide)
    rw [he] at h1
    exact ⟨h1, ((Below.refl _ w).alloc (Nat.le_refl _) _).trans (bel_le h2 (by simp))⟩
set_option maxHeartbeats 2000000 in
theorem numbers_ll (x y least most : Int) (w : World) (hx : x < 0) (hy : y < 0) :
    Calls Try.prog 8 #[.int .i64 x, .int .i64 y, .int .i64 least, .int .i64 most] w fun e w' => e = .returned (.bool true) ∧ Below w.heap.size w w' := by
  have HM : Hid (x < 0 ∨ 1099511627776 < x) := .inl hx
  have HN : Hid (y < 0 ∨ 1099511627776 < y) := .inl hy
  go_enter Try.func8, Try.ntmps8
  go_wp2_with (go_at_call 9; refine (anchor_any _).mono ?_; rintro e w0 ⟨rfl, b0⟩; have B0 : Hid (Below w.heap.size w w0) := b0; clear b0)
  refine (put_bad x w0 HM.out).mono ?_
  rintro e w1 ⟨rfl, b1⟩
  have B1 : Hid (Below w.heap.size w w1) := B0.out.trans (bel_le b1 B0.out.size)
  clear b1
  go_wp2_with fail
  refine (put_bad y w1 HN.out).mono ?_
  rintro e w2 ⟨rfl, b2⟩
  have B2 : Hid (Below w.heap.size w w2) := B1.out.trans (bel_le b2 B1.out.size)
  clear b2
  go_wp2_with fail
  go_ret
  exact ⟨rfl, B2.out⟩
set_option maxHeartbeats 2000000 in
theorem numbers_lg (x y least most : Int) (w : World) (hx : x < 0) (hy : 1099511627776 < y) :
    Calls Try.prog 8 #[.int .i64 x, .int .i64 y, .int .i64 least, .int .i64 most] w fun e w' => e = .returned (.bool true) ∧ Below w.heap.size w w' := by
  have HM : Hid (x < 0 ∨ 1099511627776 < x) := .inl hx
  have HN : Hid (y < 0 ∨ 1099511627776 < y) := .inr hy
  have gy : 0 ≤ y := by omega
  go_enter Try.func8, Try.ntmps8
  go_wp2_with (go_at_call 9; refine (anchor_any _).mono ?_; rintro e w0 ⟨rfl, b0⟩; have B0 : Hid (Below w.heap.size w w0) := b0; clear b0)
  refine (put_bad x w0 HM.out).mono ?_
  rintro e w1 ⟨rfl, b1⟩
  have B1 : Hid (Below w.heap.size w w1) := B0.out.trans (bel_le b1 B0.out.size)
  clear b1
  go_wp2_with fail
  refine (put_bad y w1 HN.out).mono ?_
  rintro e w2 ⟨rfl, b2⟩
  have B2 : Hid (Below w.heap.size w w2) := B1.out.trans (bel_le b2 B1.out.size)
  clear b2
  go_wp2_with fail
  go_ret
  exact ⟨rfl, B2.out⟩
set_option maxHeartbeats 2000000 in
theorem numbers_lk (x y least most : Int) (w : World) (hx : x < 0) (hy : 0 ≤ y) (gy : y ≤ 1099511627776) :
    Calls Try.prog 8 #[.int .i64 x, .int .i64 y, .int .i64 least, .int .i64 most] w fun e w' => e = .returned (.bool true) ∧ Below w.heap.size w w' := by
  have HM : Hid (x < 0 ∨ 1099511627776 < x) := .inl hx
  have HN : Hid (0 ≤ y ∧ y ≤ 1099511627776) := ⟨hy, gy⟩
  go_enter Try.func8, Try.ntmps8
  go_wp2_with (go_at_call 9; refine (anchor_any _).mono ?_; rintro e w0 ⟨rfl, b0⟩; have B0 : Hid (Below w.heap.size w w0) := b0; clear b0)
  refine (put_bad x w0 HM.out).mono ?_
  rintro e w1 ⟨rfl, b1⟩
  have B1 : Hid (Below w.heap.size w w1) := B0.out.trans (bel_le b1 B0.out.size)
  clear b1
  go_wp2_with fail
  refine (put_ok y w1 HN.out).mono ?_
  rintro e w2 ⟨v2, rfl, s2, b2⟩
  have B2 : Hid (Below w.heap.size w w2) := B1.out.trans (bel_le b2 B1.out.size)
  have S2 : Hid (Src w2 v2 (Cd.be 6 y.toNat)) := s2
  obtain ⟨q2, c2, rfl, -⟩ := s2.slice
  rw [Cd.be_length] at *
  clear s2
  clear b2
  go_wp2_with fail
  go_ret
  exact ⟨rfl, B2.out⟩
set_option maxHeartbeats 2000000 in
theorem numbers_gl (x y least most : Int) (w : World) (hx : 1099511627776 < x) (hy : y < 0) :
    Calls Try.prog 8 #[.int .i64 x, .int .i64 y, .int .i64 least, .int .i64 most] w fun e w' => e = .returned (.bool true) ∧ Below w.heap.size w w' := by
  have HM : Hid (x < 0 ∨ 1099511627776 < x) := .inr hx
  have gx : 0 ≤ x := by omega
  have HN : Hid (y < 0 ∨ 1099511627776 < y) := .inl hy
  go_enter Try.func8, Try.ntmps8
  go_wp2_with (go_at_call 9; refine (anchor_any _).mono ?_; rintro e w0 ⟨rfl, b0⟩; have B0 : Hid (Below w.heap.size w w0) := b0; clear b0)
  refine (put_bad x w0 HM.out).mono ?_
  rintro e w1 ⟨rfl, b1⟩
  have B1 : Hid (Below w.heap.size w w1) := B0.out.trans (bel_le b1 B0.out.size)
  clear b1
  go_wp2_with fail
  refine (put_bad y w1 HN.out).mono ?_
  rintro e w2 ⟨rfl, b2⟩
  have B2 : Hid (Below w.heap.size w w2) := B1.out.trans (bel_le b2 B1.out.size)
  clear b2
  go_wp2_with fail
  go_ret
  exact ⟨rfl, B2.out⟩
set_option maxHeartbeats 2000000 in
theorem numbers_gg (x y least most : Int) (w : World) (hx : 1099511627776 < x) (hy : 1099511627776 < y) :
    Calls Try.prog 8 #[.int .i64 x, .int .i64 y, .int .i64 least, .int .i64 most] w fun e w' => e = .returned (.bool true) ∧ Below w.heap.size w w' := by
  have HM : Hid (x < 0 ∨ 1099511627776 < x) := .inr hx
  have gx : 0 ≤ x := by omega
  have HN : Hid (y < 0 ∨ 1099511627776 < y) := .inr hy
  have gy : 0 ≤ y := by omega
  go_enter Try.func8, Try.ntmps8
  go_wp2_with (go_at_call 9; refine (anchor_any _).mono ?_; rintro e w0 ⟨rfl, b0⟩; have B0 : Hid (Below w.heap.size w w0) := b0; clear b0)
  refine (put_bad x w0 HM.out).mono ?_
  rintro e w1 ⟨rfl, b1⟩
  have B1 : Hid (Below w.heap.size w w1) := B0.out.trans (bel_le b1 B0.out.size)
  clear b1
  go_wp2_with fail
  refine (put_bad y w1 HN.out).mono ?_
  rintro e w2 ⟨rfl, b2⟩
  have B2 : Hid (Below w.heap.size w w2) := B1.out.trans (bel_le b2 B1.out.size)
  clear b2
  go_wp2_with fail
  go_ret
  exact ⟨rfl, B2.out⟩
set_option maxHeartbeats 2000000 in
theorem numbers_gk (x y least most : Int) (w : World) (hx : 1099511627776 < x) (hy : 0 ≤ y) (gy : y ≤ 1099511627776) :
    Calls Try.prog 8 #[.int .i64 x, .int .i64 y, .int .i64 least, .int .i64 most] w fun e w' => e = .returned (.bool true) ∧ Below w.heap.size w w' := by
  have HM : Hid (x < 0 ∨ 1099511627776 < x) := .inr hx
  have gx : 0 ≤ x := by omega
  have HN : Hid (0 ≤ y ∧ y ≤ 1099511627776) := ⟨hy, gy⟩
  go_enter Try.func8, Try.ntmps8
  go_wp2_with (go_at_call 9; refine (anchor_any _).mono ?_; rintro e w0 ⟨rfl, b0⟩; have B0 : Hid (Below w.heap.size w w0) := b0; clear b0)
  refine (put_bad x w0 HM.out).mono ?_
  rintro e w1 ⟨rfl, b1⟩
  have B1 : Hid (Below w.heap.size w w1) := B0.out.trans (bel_le b1 B0.out.size)
  clear b1
  go_wp2_with fail
  refine (put_ok y w1 HN.out).mono ?_
  rintro e w2 ⟨v2, rfl, s2, b2⟩
  have B2 : Hid (Below w.heap.size w w2) := B1.out.trans (bel_le b2 B1.out.size)
  have S2 : Hid (Src w2 v2 (Cd.be 6 y.toNat)) := s2
  obtain ⟨q2, c2, rfl, -⟩ := s2.slice
  rw [Cd.be_length] at *
  clear s2
  clear b2
  go_wp2_with fail
  go_ret
  exact ⟨rfl, B2.out⟩
set_option maxHeartbeats 2000000 in
theorem numbers_kl (x y least most : Int) (w : World) (hx : 0 ≤ x) (gx : x ≤ 1099511627776) (hy : y < 0) :
    Calls Try.prog 8 #[.int .i64 x, .int .i64 y, .int .i64 least, .int .i64 most] w fun e w' => e = .returned (.bool true) ∧ Below w.heap.size w w' := by
  have HM : Hid (0 ≤ x ∧ x ≤ 1099511627776) := ⟨hx, gx⟩
  have HN : Hid (y < 0 ∨ 1099511627776 < y) := .inl hy
  go_enter Try.func8, Try.ntmps8
  go_wp2_with (go_at_call 9; refine (anchor_any _).mono ?_; rintro e w0 ⟨rfl, b0⟩; have B0 : Hid (Below w.heap.size w w0) := b0; clear b0)
  refine (put_ok x w0 HM.out).mono ?_
  rintro e w1 ⟨v1, rfl, s1, b1⟩
  have B1 : Hid (Below w.heap.size w w1) := B0.out.trans (bel_le b1 B0.out.size)
  have S1 : Hid (Src w1 v1 (Cd.be 6 x.toNat)) := s1
  obtain ⟨q1, c1, rfl, -⟩ := s1.slice
  rw [Cd.be_length] at *
  clear s1
  clear b1
  go_wp2_with fail
  refine (put_bad y w1 HN.out).mono ?_
  rintro e w2 ⟨rfl, b2⟩
  have B2 : Hid (Below w.heap.size w w2) := B1.out.trans (bel_le b2 B1.out.size)
  have T1 : Hid (Src w2 (.slice q1 6 c1) (Cd.be 6 x.toNat)) := S1.out.below b2
  clear b2
  go_wp2_with fail
  go_ret
  exact ⟨rfl, B2.out⟩
set_option maxHeartbeats 2000000 in
theorem numbers_kg (x y least most : Int) (w : World) (hx : 0 ≤ x) (gx : x ≤ 1099511627776) (hy : 1099511627776 < y) :
    Calls Try.prog 8 #[.int .i64 x, .int .i64 y, .int .i64 least, .int .i64 most] w fun e w' => e = .returned (.bool true) ∧ Below w.heap.size w w' := by
  have HM : Hid (0 ≤ x ∧ x ≤ 1099511627776) := ⟨hx, gx⟩
  have HN : Hid (y < 0 ∨ 1099511627776 < y) := .inr hy
  have gy : 0 ≤ y := by omega
  go_enter Try.func8, Try.ntmps8
  go_wp2_with (go_at_call 9; refine (anchor_any _).mono ?_; rintro e w0 ⟨rfl, b0⟩; have B0 : Hid (Below w.heap.size w w0) := b0; clear b0)
  refine (put_ok x w0 HM.out).mono ?_
  rintro e w1 ⟨v1, rfl, s1, b1⟩
  have B1 : Hid (Below w.heap.size w w1) := B0.out.trans (bel_le b1 B0.out.size)
  have S1 : Hid (Src w1 v1 (Cd.be 6 x.toNat)) := s1
  obtain ⟨q1, c1, rfl, -⟩ := s1.slice
  rw [Cd.be_length] at *
  clear s1
  clear b1
  go_wp2_with fail
  refine (put_bad y w1 HN.out).mono ?_
  rintro e w2 ⟨rfl, b2⟩
  have B2 : Hid (Below w.heap.size w w2) := B1.out.trans (bel_le b2 B1.out.size)
  have T1 : Hid (Src w2 (.slice q1 6 c1) (Cd.be 6 x.toNat)) := S1.out.below b2
  clear b2
  go_wp2_with fail
  go_ret
  exact ⟨rfl, B2.out⟩
set_option maxHeartbeats 4000000 in
theorem numbers_kkl (x y least most : Int) (w : World) (hx : 0 ≤ x) (gx : x ≤ 1099511627776) (hy : 0 ≤ y) (gy : y ≤ 1099511627776) (hb : x < least) :
    Calls Try.prog 8 #[.int .i64 x, .int .i64 y, .int .i64 least, .int .i64 most] w fun e w' => e = .returned (.bool true) ∧ Below w.heap.size w w' := by
  have HM : Hid (0 ≤ x ∧ x ≤ 1099511627776) := ⟨hx, gx⟩
  have HN : Hid (0 ≤ y ∧ y ≤ 1099511627776) := ⟨hy, gy⟩
  have HX : Hid ((x.toNat : Int) = x) := by show _ = _; omega
  have HV : Hid (Cd.val ((Cd.be 6 x.toNat).take 6) = x.toNat) := val6 (by omega)
  have HL : Hid (6 ≤ (Cd.be 6 x.toNat).length) := by show _ ≤ _; rw [Cd.be_length]; omega
  have HD : Hid ((Cd.be 6 x.toNat).drop 6 = []) := List.drop_eq_nil_of_le (by rw [Cd.be_length]; omega)
  have HW : Hid ((Cd.be 6 x.toNat).length < 6 ∨ (Cd.val ((Cd.be 6 x.toNat).take 6) : Int) < least ∨ most < (Cd.val ((Cd.be 6 x.toNat).take 6) : Int)) := by
    show _ ∨ _ ∨ _; rw [HV.out]; omega
  have HLS : Hid (Op.bytesLess (strB (Cd.be 6 x.toNat)).toList (strB (Cd.be 6 y.toNat)).toList = decide (x < y)) := by
    show _ = _
    rw [lss_be (by omega) (by omega)]
    simp
    omega
  go_enter Try.func8, Try.ntmps8
  go_wp2_with (go_at_call 9; refine (anchor_any _).mono ?_; rintro e w0 ⟨rfl, b0⟩; have B0 : Hid (Below w.heap.size w w0) := b0; clear b0)
  refine (put_ok x w0 HM.out).mono ?_
  rintro e w1 ⟨v1, rfl, s1, b1⟩
  have B1 : Hid (Below w.heap.size w w1) := B0.out.trans (bel_le b1 B0.out.size)
  have S1 : Hid (Src w1 v1 (Cd.be 6 x.toNat)) := s1
  obtain ⟨q1, c1, rfl, -⟩ := s1.slice
  rw [Cd.be_length] at *
  clear s1
  clear b1
  go_wp2_with fail
  refine (put_ok y w1 HN.out).mono ?_
  rintro e w2 ⟨v2, rfl, s2, b2⟩
  have B2 : Hid (Below w.heap.size w w2) := B1.out.trans (bel_le b2 B1.out.size)
  have T1 : Hid (Src w2 (.slice q1 6 c1) (Cd.be 6 x.toNat)) := S1.out.below b2
  have S2 : Hid (Src w2 v2 (Cd.be 6 y.toNat)) := s2
  obtain ⟨q2, c2, rfl, -⟩ := s2.slice
  rw [Cd.be_length] at *
  clear s2
  clear b2
  go_wp2_with (first
      | (go_at_call 14; refine (Read_any _ _ _ T1.out (by rw [Cd.be_length]; omega)).mono ?_; rintro e w3 ⟨p, g, o, rfl, r3, p3, g3, b3⟩; have R3 : Hid (RdAt w3 p g o (Cd.be 6 x.toNat) false) := r3; have B3 : Hid (Below w.heap.size w w3) := B2.out.trans (bel_le b3 B2.out.size); have P3 : Hid (w.heap.size ≤ p) := Nat.le_trans B2.out.size p3; have U3 : Hid (w2.heap.size ≤ p) := p3; have A3 : Hid (Src w3 (.slice q1 6 c1) (Cd.be 6 x.toNat)) := T1.out.below b3; have C3 : Hid (Src w3 (.slice q2 6 c2) (Cd.be 6 y.toNat)) := S2.out.below b3; have L1 : Hid (Off (.slice q1 6 c1) [p]) := off_old T1.out p3; have L2 : Hid (Off (.slice q2 6 c2) [p]) := off_old S2.out p3; clear r3 b3 p3 g3)
      | (go_at_call 16; refine (Number_lack _ p g o _ false least most R3.out (HW.out)).mono ?_; rintro e w4 ⟨rfl, r4, o4⟩; have R4 : Hid (RdAt w4 p g o [] true) := r4; have B4 : Hid (Below w.heap.size w w4) := B3.out.trans (o4.below B3.out.size (by simpa using P3.out)); have cv1 := conv_src (A3.out.only o4 L1.out); have cv2 := conv_src (C3.out.only o4 L2.out); generalize strB (Cd.be 6 x.toNat) = A at *; generalize strB (Cd.be 6 y.toNat) = B at *; clear r4 o4)
      | (go_at_call 18; refine (Bad_any _ p g o _ _ R4.out).mono ?_; rintro e w5 ⟨rfl, rfl⟩)
      | (go_at_call 17; refine (End_any _ p g (o + 6) _ _ R4.out).mono ?_; rintro e w5 ⟨rfl, rfl⟩))
  go_ret
  refine ⟨?_, B4.out⟩
  show Ending.returned (.bool (Op.bytesLess A.toList B.toList == decide (x < y))) = _
  rw [HLS.out]
  simp
set_option maxHeartbeats 4000000 in
theorem numbers_kkg (x y least most : Int) (w : World) (hx : 0 ≤ x) (gx : x ≤ 1099511627776) (hy : 0 ≤ y) (gy : y ≤ 1099511627776) (hb : ¬ x < least) (hc : most < x) :
    Calls Try.prog 8 #[.int .i64 x, .int .i64 y, .int .i64 least, .int .i64 most] w fun e w' => e = .returned (.bool true) ∧ Below w.heap.size w w' := by
  have HM : Hid (0 ≤ x ∧ x ≤ 1099511627776) := ⟨hx, gx⟩
  have HN : Hid (0 ≤ y ∧ y ≤ 1099511627776) := ⟨hy, gy⟩
  have HX : Hid ((x.toNat : Int) = x) := by show _ = _; omega
  have HV : Hid (Cd.val ((Cd.be 6 x.toNat).take 6) = x.toNat) := val6 (by omega)
  have HL : Hid (6 ≤ (Cd.be 6 x.toNat).length) := by show _ ≤ _; rw [Cd.be_length]; omega
  have HD : Hid ((Cd.be 6 x.toNat).drop 6 = []) := List.drop_eq_nil_of_le (by rw [Cd.be_length]; omega)
  have HW : Hid ((Cd.be 6 x.toNat).length < 6 ∨ (Cd.val ((Cd.be 6 x.toNat).take 6) : Int) < least ∨ most < (Cd.val ((Cd.be 6 x.toNat).take 6) : Int)) := by
    show _ ∨ _ ∨ _; rw [HV.out]; omega
  have HLS : Hid (Op.bytesLess (strB (Cd.be 6 x.toNat)).toList (strB (Cd.be 6 y.toNat)).toList = decide (x < y)) := by
    show _ = _
    rw [lss_be (by omega) (by omega)]
    simp
    omega
  go_enter Try.func8, Try.ntmps8
  go_wp2_with (go_at_call 9; refine (anchor_any _).mono ?_; rintro e w0 ⟨rfl, b0⟩; have B0 : Hid (Below w.heap.size w w0) := b0; clear b0)
  refine (put_ok x w0 HM.out).mono ?_
  rintro e w1 ⟨v1, rfl, s1, b1⟩
  have B1 : Hid (Below w.heap.size w w1) := B0.out.trans (bel_le b1 B0.out.size)
  have S1 : Hid (Src w1 v1 (Cd.be 6 x.toNat)) := s1
  obtain ⟨q1, c1, rfl, -⟩ := s1.slice
  rw [Cd.be_length] at *
  clear s1
  clear b1
  go_wp2_with fail
  refine (put_ok y w1 HN.out).mono ?_
  rintro e w2 ⟨v2, rfl, s2, b2⟩
  have B2 : Hid (Below w.heap.size w w2) := B1.out.trans (bel_le b2 B1.out.size)
  have T1 : Hid (Src w2 (.slice q1 6 c1) (Cd.be 6 x.toNat)) := S1.out.below b2
  have S2 : Hid (Src w2 v2 (Cd.be 6 y.toNat)) := s2
  obtain ⟨q2, c2, rfl, -⟩ := s2.slice
  rw [Cd.be_length] at *
  clear s2
  clear b2
  go_wp2_with (first
      | (go_at_call 14; refine (Read_any _ _ _ T1.out (by rw [Cd.be_length]; omega)).mono ?_; rintro e w3 ⟨p, g, o, rfl, r3, p3, g3, b3⟩; have R3 : Hid (RdAt w3 p g o (Cd.be 6 x.toNat) false) := r3; have B3 : Hid (Below w.heap.size w w3) := B2.out.trans (bel_le b3 B2.out.size); have P3 : Hid (w.heap.size ≤ p) := Nat.le_trans B2.out.size p3; have U3 : Hid (w2.heap.size ≤ p) := p3; have A3 : Hid (Src w3 (.slice q1 6 c1) (Cd.be 6 x.toNat)) := T1.out.below b3; have C3 : Hid (Src w3 (.slice q2 6 c2) (Cd.be 6 y.toNat)) := S2.out.below b3; have L1 : Hid (Off (.slice q1 6 c1) [p]) := off_old T1.out p3; have L2 : Hid (Off (.slice q2 6 c2) [p]) := off_old S2.out p3; clear r3 b3 p3 g3)
      | (go_at_call 16; refine (Number_lack _ p g o _ false least most R3.out (HW.out)).mono ?_; rintro e w4 ⟨rfl, r4, o4⟩; have R4 : Hid (RdAt w4 p g o [] true) := r4; have B4 : Hid (Below w.heap.size w w4) := B3.out.trans (o4.below B3.out.size (by simpa using P3.out)); have cv1 := conv_src (A3.out.only o4 L1.out); have cv2 := conv_src (C3.out.only o4 L2.out); generalize strB (Cd.be 6 x.toNat) = A at *; generalize strB (Cd.be 6 y.toNat) = B at *; clear r4 o4)
      | (go_at_call 18; refine (Bad_any _ p g o _ _ R4.out).mono ?_; rintro e w5 ⟨rfl, rfl⟩)
      | (go_at_call 17; refine (End_any _ p g (o + 6) _ _ R4.out).mono ?_; rintro e w5 ⟨rfl, rfl⟩))
  go_ret
  refine ⟨?_, B4.out⟩
  show Ending.returned (.bool (Op.bytesLess A.toList B.toList == decide (x < y))) = _
  rw [HLS.out]
  simp
set_option maxHeartbeats 4000000 in
theorem numbers_kkk (x y least most : Int) (w : World) (hx : 0 ≤ x) (gx : x ≤ 1099511627776) (hy : 0 ≤ y) (gy : y ≤ 1099511627776) (hb : least ≤ x) (hc : x ≤ most) :
    Calls Try.prog 8 #[.int .i64 x, .int .i64 y, .int .i64 least, .int .i64 most] w fun e w' => e = .returned (.bool true) ∧ Below w.heap.size w w' := by
  have HM : Hid (0 ≤ x ∧ x ≤ 1099511627776) := ⟨hx, gx⟩
  have HN : Hid (0 ≤ y ∧ y ≤ 1099511627776) := ⟨hy, gy⟩
  have HX : Hid ((x.toNat : Int) = x) := by show _ = _; omega
  have HV : Hid (Cd.val ((Cd.be 6 x.toNat).take 6) = x.toNat) := val6 (by omega)
  have HL : Hid (6 ≤ (Cd.be 6 x.toNat).length) := by show _ ≤ _; rw [Cd.be_length]; omega
  have HD : Hid ((Cd.be 6 x.toNat).drop 6 = []) := List.drop_eq_nil_of_le (by rw [Cd.be_length]; omega)
  have HW : Hid (Cd.val ((Cd.be 6 x.toNat).take 6) = x.toNat) := by
    exact HV.out
  have HLS : Hid (Op.bytesLess (strB (Cd.be 6 x.toNat)).toList (strB (Cd.be 6 y.toNat)).toList = decide (x < y)) := by
    show _ = _
    rw [lss_be (by omega) (by omega)]
    simp
    omega
  go_enter Try.func8, Try.ntmps8
  go_wp2_with (go_at_call 9; refine (anchor_any _).mono ?_; rintro e w0 ⟨rfl, b0⟩; have B0 : Hid (Below w.heap.size w w0) := b0; clear b0)
  refine (put_ok x w0 HM.out).mono ?_
  rintro e w1 ⟨v1, rfl, s1, b1⟩
  have B1 : Hid (Below w.heap.size w w1) := B0.out.trans (bel_le b1 B0.out.size)
  have S1 : Hid (Src w1 v1 (Cd.be 6 x.toNat)) := s1
  obtain ⟨q1, c1, rfl, -⟩ := s1.slice
  rw [Cd.be_length] at *
  clear s1
  clear b1
  go_wp2_with fail
  refine (put_ok y w1 HN.out).mono ?_
  rintro e w2 ⟨v2, rfl, s2, b2⟩
  have B2 : Hid (Below w.heap.size w w2) := B1.out.trans (bel_le b2 B1.out.size)
  have T1 : Hid (Src w2 (.slice q1 6 c1) (Cd.be 6 x.toNat)) := S1.out.below b2
  have S2 : Hid (Src w2 v2 (Cd.be 6 y.toNat)) := s2
  obtain ⟨q2, c2, rfl, -⟩ := s2.slice
  rw [Cd.be_length] at *
  clear s2
  clear b2
  go_wp2_with (first
      | (go_at_call 14; refine (Read_any _ _ _ T1.out (by rw [Cd.be_length]; omega)).mono ?_; rintro e w3 ⟨p, g, o, rfl, r3, p3, g3, b3⟩; have R3 : Hid (RdAt w3 p g o (Cd.be 6 x.toNat) false) := r3; have B3 : Hid (Below w.heap.size w w3) := B2.out.trans (bel_le b3 B2.out.size); have P3 : Hid (w.heap.size ≤ p) := Nat.le_trans B2.out.size p3; have U3 : Hid (w2.heap.size ≤ p) := p3; have A3 : Hid (Src w3 (.slice q1 6 c1) (Cd.be 6 x.toNat)) := T1.out.below b3; have C3 : Hid (Src w3 (.slice q2 6 c2) (Cd.be 6 y.toNat)) := S2.out.below b3; have L1 : Hid (Off (.slice q1 6 c1) [p]) := off_old T1.out p3; have L2 : Hid (Off (.slice q2 6 c2) [p]) := off_old S2.out p3; clear r3 b3 p3 g3)
      | (go_at_call 16; refine (Number_ok _ p g o _ false least most x.toNat R3.out HL.out HW.out (by have := HX.out; omega) (by have := HX.out; omega)).mono ?_; rintro e w4 ⟨rfl, r4, o4⟩; rw [HX.out] at *; have R4 : Hid (RdAt w4 p g (o + 6) [] false) := (by have h := r4; rw [HD.out] at h; exact h); have B4 : Hid (Below w.heap.size w w4) := B3.out.trans (o4.below B3.out.size (by simpa using P3.out)); have cv1 := conv_src (A3.out.only o4 L1.out); have cv2 := conv_src (C3.out.only o4 L2.out); generalize strB (Cd.be 6 x.toNat) = A at *; generalize strB (Cd.be 6 y.toNat) = B at *; clear r4 o4)
      | (go_at_call 18; refine (Bad_any _ p g o _ _ R4.out).mono ?_; rintro e w5 ⟨rfl, rfl⟩)
      | (go_at_call 17; refine (End_any _ p g (o + 6) _ _ R4.out).mono ?_; rintro e w5 ⟨rfl, rfl⟩))
  go_ret
  refine ⟨?_, B4.out⟩
  show Ending.returned (.bool (Op.bytesLess A.toList B.toList == decide (x < y))) = _
  rw [HLS.out]
  simp
theorem numbers_any (x y least most : Int) (w : World) :
    Calls Try.prog 8 #[.int .i64 x, .int .i64 y, .int .i64 least, .int .i64 most] w fun e w' => e = .returned (.bool true) ∧ Below w.heap.size w w' := by
  rcases Int.lt_or_le x 0 with hx | hx
  · rcases Int.lt_or_le y 0 with hy | hy
    · exact numbers_ll x y least most w hx hy
    · rcases Int.lt_or_le 1099511627776 y with gy | gy
      · exact numbers_lg x y least most w hx gy
      · exact numbers_lk x y least most w hx hy gy
  · rcases Int.lt_or_le 1099511627776 x with gx | gx
    · rcases Int.lt_or_le y 0 with hy | hy
      · exact numbers_gl x y least most w gx hy
      · rcases Int.lt_or_le 1099511627776 y with gy | gy
        · exact numbers_gg x y least most w gx gy
        · exact numbers_gk x y least most w gx hy gy
    · rcases Int.lt_or_le y 0 with hy | hy
      · exact numbers_kl x y least most w hx gx hy
      · rcases Int.lt_or_le 1099511627776 y with gy | gy
        · exact numbers_kg x y least most w hx gx gy
        · by_cases hb : x < least
          · exact numbers_kkl x y least most w hx gx hy gy hb
          · rcases Int.lt_or_le most x with hc | hc
            · exact numbers_kkg x y least most w hx gx hy gy hb hc
            · exact numbers_kkk x y least most w hx gx hy gy (by omega) hc
end Go.Proofs.Ytcpojjhopbcjkaa.C8
