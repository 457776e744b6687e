/- The walk of BucketStrips. -/
import Derived.Test.YtedbfhbmpeogdaaB13Anc
import Derived.Test.YtedbfhbmpeogdaaB13RSt
import Derived.Test.YtedbfhbmpeogdaaC8Args
namespace Go.Proofs.Ytedbfhbmpeogdaa.C8
open Go.RowKit
theorem strips_long (p : Option Addr) (n c : Nat) (w : World) (h : 2500 < n) (hn : n ≤ 9223372036854775807) :
    Calls Try.prog 4 #[.slice p n c] w fun e w' => e = .returned (.bool true) ∧ Below w.heap.size w w' := by
  have n1 : (2500 : Int) < (n : Int) := by omega
  go_enter Try.func4, Try.ntmps4
  go_wp2_with fail
  refine (anchor_any _).mono ?_
  rintro e w0 ⟨rfl, b0⟩
  have B0 : Hid (Below w.heap.size w w0) := b0
  clear b0
  go_wp2_with fail
  go_ret
  exact ⟨rfl, B0.out⟩
set_option maxHeartbeats 2000000 in
theorem strips_main {l : List Nat} (p : Option Addr) (n c : Nat) (w : World) (hs : Src w (.slice p n c) l) (hl : l.length = n) (hn : n ≤ 2500) :
    Calls Try.prog 4 #[.slice p n c] w fun e w' => e = .returned (.bool true) ∧ Below w.heap.size w w' := by
  have n1 : (n : Int) ≤ 2500 := by omega
  have HS : Hid (Src w (.slice p n c) l) := hs
  by_cases hr : Right l
  · have hc := right_cnt hr
    have HA : Hid (∀ W, Below w.heap.size w W → Calls Try.prog 11 #[.slice p n c] W fun e w' => ∃ q c1, e = .returned (.tuple #[.slice q (cnt l) c1, .int .i64 0]) ∧ Src w' (.slice q (cnt l) c1) (txtL l) ∧ Below w.heap.size w w') := fun W h =>
      (Strip_ok _ W (hs.below h) hr).mono fun e w' ⟨u, he, ho, hb⟩ => by
        have hsm : ∀ x ∈ txtL l, x < 256 := fun x hx => hs.small x (List.mem_of_mem_drop (List.mem_of_mem_take hx))
        have hsu := Src.own hsm ho
        obtain ⟨q, c1, rfl⟩ := own_slice ho
        exact ⟨q, c1, he, hsu, h.trans (hb.mono h.size)⟩
    have HB : Hid (∀ W, Below w.heap.size w W → Calls Try.prog 13 #[.slice p n c] W fun e w' => ∃ q c1, e = .returned (.tuple #[.slice q (cnt l) c1, .bool true]) ∧ Src w' (.slice q (cnt l) c1) (txtL l) ∧ Below W.heap.size W w') := fun W h =>
      (rstrip_yes _ W (hs.below h) hr).mono fun e w' ⟨u, he, ho, hb⟩ => by
        obtain ⟨q, c1, rfl, -⟩ := ho.slice
        rw [txt_length hc.2.1] at he ho
        exact ⟨q, c1, he, ho, hb⟩
    generalize cnt l = m at *
    have hbe : ((strB (txtL l)).toList == (strB (txtL l)).toList) = true := beq_self_eq_true _
    clear hs hl hr hc
    go_enter Try.func4, Try.ntmps4
    go_wp2_with fail
    refine (anchor_any _).mono ?_
    rintro e w0 ⟨rfl, b0⟩
    have B0 : Hid (Below w.heap.size w w0) := b0
    clear b0
    go_wp2_with fail
    refine (HA.out _ B0.out).mono ?_
    rintro e w1 ⟨q1, c1, rfl, s1, b1⟩
    have B1 : Hid (Below w.heap.size w w1) := b1
    have S1 : Hid (Src w1 (.slice q1 m c1) (txtL l)) := s1
    clear b1 s1
    go_wp2_with fail
    refine (HB.out _ B1.out).mono ?_
    rintro e w2 ⟨q2, c2, rfl, s2, b2⟩
    have B2 : Hid (Below w.heap.size w w2) := B1.out.trans (b2.mono B1.out.size)
    have hc1 : (convert 22 9 (.slice q1 m c1)).run Try.prog w2 = .ok (.string (strB (txtL l))) w2 := conv_src (S1.out.below b2)
    have hc2 : (convert 22 9 (.slice q2 m c2)).run Try.prog w2 = .ok (.string (strB (txtL l))) w2 := conv_src s2
    clear b2 s2 S1
    generalize strB (txtL l) = st at *
    go_wp2_with fail
    go_ret
    exact ⟨rfl, B2.out⟩
  · have HA : Hid (∀ W, Below w.heap.size w W → Calls Try.prog 11 #[.slice p n c] W fun e w' => e = .returned (.tuple #[.slice none 0 0, .int .i64 10]) ∧ Below w.heap.size w w') := fun W h =>
      (strip_no _ W (hs.below h) (by omega) hr).mono fun e w' ⟨he, hb⟩ => ⟨he, h.trans (hb.mono h.size)⟩
    have HB : Hid (∀ W, Below w.heap.size w W → Calls Try.prog 13 #[.slice p n c] W fun e w' => e = .returned (.tuple #[.slice none 0 0, .bool false]) ∧ Below w.heap.size w w') := fun W h =>
      (rstrip_no _ W (hs.below h) (by omega) hr).mono fun e w' ⟨he, hb⟩ => ⟨he, h.trans (hb.mono h.size)⟩
    clear hs hl hr
    go_enter Try.func4, Try.ntmps4
    go_wp2_with fail
    refine (anchor_any _).mono ?_
    rintro e w0 ⟨rfl, b0⟩
    have B0 : Hid (Below w.heap.size w w0) := b0
    clear b0
    go_wp2_with fail
    refine (HA.out _ B0.out).mono ?_
    rintro e w1 ⟨rfl, b1⟩
    have B1 : Hid (Below w.heap.size w w1) := b1
    clear b1
    go_wp2_with fail
    refine (HB.out _ B1.out).mono ?_
    rintro e w2 ⟨rfl, b2⟩
    have B2 : Hid (Below w.heap.size w w2) := b2
    clear b2
    go_wp2_with fail
    go_ret
    exact ⟨rfl, B2.out⟩
theorem strips_any (p : Option Addr) (n c : Nat) (w : World) (h1 : RowIs w p n c) : Calls Try.prog 4 #[.slice p n c] w fun e w' => e = .returned (.bool true) ∧ Below w.heap.size w w' := by
  by_cases h : 2500 < n
  · exact strips_long p n c w h h1.max
  · obtain ⟨l, hl, hs⟩ := Src.of h1
    exact strips_main p n c w hs hl (by omega)
end Go.Proofs.Ytedbfhbmpeogdaa.C8
