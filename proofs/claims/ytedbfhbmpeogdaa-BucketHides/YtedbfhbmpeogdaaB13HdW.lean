/- The walk of BucketHides. -/
import Derived.Test.YtedbfhbmpeogdaaB13Anc
import Derived.Test.YtedbfhbmpeogdaaB13RP
import Derived.Test.YtedbfhbmpeogdaaC8Args
namespace Go.Proofs.Ytedbfhbmpeogdaa.C8
open Go.RowKit
theorem hides_long (p q : Option Addr) (n c m d : Nat) (w : World) (h : 2046 < n ∨ 2046 < m) (hn : n ≤ 9223372036854775807) (hm : m ≤ 9223372036854775807) :
    Calls Try.prog 6 #[.slice p n c, .slice q m d] w fun e w' => e = .returned (.bool true) ∧ Below w.heap.size w w' := by
  by_cases h1 : 2046 < n
  · have n1 : (2046 : Int) < (n : Int) := by omega
    go_enter Try.func6, Try.ntmps6
    go_wp2_with fail
    refine (anchor_any _).mono ?_
    rintro e w0 ⟨rfl, b0⟩
    have B0 : Hid (Below w.heap.size w w0) := b0
    clear b0
    go_wp2_with fail
    go_ret
    exact ⟨rfl, B0.out⟩
  · have n1 : (n : Int) ≤ 2046 := by omega
    have m1 : (2046 : Int) < (m : Int) := by omega
    go_enter Try.func6, Try.ntmps6
    go_wp2_with fail
    refine (anchor_any _).mono ?_
    rintro e w0 ⟨rfl, b0⟩
    have B0 : Hid (Below w.heap.size w w0) := b0
    clear b0
    go_wp2_with fail
    go_ret
    exact ⟨rfl, B0.out⟩
set_option maxHeartbeats 2000000 in
theorem hides_main {l k : List Nat} (p q : Option Addr) (n c m d : Nat) (w : World) (hs : Src w (.slice p n c) l) (hk : Src w (.slice q m d) k) (hl : l.length = n) (hkl : k.length = m) (hn : n ≤ 2046) (hm : m ≤ 2046) :
    Calls Try.prog 6 #[.slice p n c, .slice q m d] w fun e w' => e = .returned (.bool true) ∧ Below w.heap.size w w' := by
  have HA : Hid (∀ W, Below w.heap.size w W → Calls Try.prog 10 #[.slice p n c] W fun e w' => ∃ g, e = .returned (.tuple #[.slice (some ⟨g, 0, none⟩) (bsz n) (bsz n), .int .i64 0]) ∧ Below w.heap.size w w') := fun W h =>
    (Pad_ok p n c W (hs.below h) hl hn).mono fun e w' ⟨he, _, hb⟩ => ⟨_, he, h.trans (hb.mono h.size)⟩
  have HB : Hid (∀ W, Below w.heap.size w W → Calls Try.prog 10 #[.slice q m d] W fun e w' => ∃ g, e = .returned (.tuple #[.slice (some ⟨g, 0, none⟩) (bsz m) (bsz m), .int .i64 0]) ∧ Below w.heap.size w w') := fun W h =>
    (Pad_ok q m d W (hk.below h) hkl hm).mono fun e w' ⟨he, _, hb⟩ => ⟨_, he, h.trans (hb.mono h.size)⟩
  have HC : Hid (∀ W, Below w.heap.size w W → Calls Try.prog 15 #[.int .i64 (n : Int)] W fun e w' => e = .returned (.int .i64 (bsz n : Nat)) ∧ Below w.heap.size w w') := fun W h => by
    have := RSize_any (n : Int) W (by omega)
    rw [rsz_nat] at this
    exact this.mono fun e w' ⟨he, hb⟩ => ⟨he, h.trans (hb.mono h.size)⟩
  have HD : Hid (∀ W, Below w.heap.size w W → Calls Try.prog 15 #[.int .i64 (m : Int)] W fun e w' => e = .returned (.int .i64 (bsz m : Nat)) ∧ Below w.heap.size w w') := fun W h => by
    have := RSize_any (m : Int) W (by omega)
    rw [rsz_nat] at this
    exact this.mono fun e w' ⟨he, hb⟩ => ⟨he, h.trans (hb.mono h.size)⟩
  have s1 := bsz_le hn
  have s2 := bsz_le hm
  generalize bsz n = s at *
  generalize bsz m = t at *
  have n1 : (n : Int) ≤ 2046 := by omega
  have m1 : (m : Int) ≤ 2046 := by omega
  have t1 : (s : Int) ≤ 2048 := by omega
  have t2 : (t : Int) ≤ 2048 := by omega
  clear hs hk hl hkl hn hm s1 s2
  by_cases hst : s = t
  · subst hst
    go_enter Try.func6, Try.ntmps6
    go_wp2_with fail
    refine (anchor_any _).mono ?_
    rintro e w0 ⟨rfl, b0⟩
    have B0 : Hid (Below w.heap.size w w0) := b0
    clear b0
    go_wp2_with fail
    refine (HA.out _ B0.out).mono ?_
    rintro e w1 ⟨g1, rfl, b1⟩
    have B1 : Hid (Below w.heap.size w w1) := b1
    clear b1
    go_wp2_with fail
    refine (HB.out _ B1.out).mono ?_
    rintro e w2 ⟨g2, rfl, b2⟩
    have B2 : Hid (Below w.heap.size w w2) := b2
    clear b2
    go_wp2_with fail
    refine (HC.out _ B2.out).mono ?_
    rintro e w3 ⟨rfl, b3⟩
    have B3 : Hid (Below w.heap.size w w3) := b3
    clear b3
    go_wp2_with fail
    refine (HD.out _ B3.out).mono ?_
    rintro e w4 ⟨rfl, b4⟩
    have B4 : Hid (Below w.heap.size w w4) := b4
    clear b4
    go_wp2_with fail
    go_ret
    exact ⟨rfl, B4.out⟩
  · have hst2 : ¬ (s : Int) = (t : Int) := by omega
    go_enter Try.func6, Try.ntmps6
    go_wp2_with fail
    refine (anchor_any _).mono ?_
    rintro e w0 ⟨rfl, b0⟩
    have B0 : Hid (Below w.heap.size w w0) := b0
    clear b0
    go_wp2_with fail
    refine (HA.out _ B0.out).mono ?_
    rintro e w1 ⟨g1, rfl, b1⟩
    have B1 : Hid (Below w.heap.size w w1) := b1
    clear b1
    go_wp2_with fail
    refine (HB.out _ B1.out).mono ?_
    rintro e w2 ⟨g2, rfl, b2⟩
    have B2 : Hid (Below w.heap.size w w2) := b2
    clear b2
    go_wp2_with fail
    refine (HC.out _ B2.out).mono ?_
    rintro e w3 ⟨rfl, b3⟩
    have B3 : Hid (Below w.heap.size w w3) := b3
    clear b3
    go_wp2_with fail
    refine (HD.out _ B3.out).mono ?_
    rintro e w4 ⟨rfl, b4⟩
    have B4 : Hid (Below w.heap.size w w4) := b4
    clear b4
    go_wp2_with fail
    go_ret
    exact ⟨rfl, B4.out⟩
theorem hides_any (p q : Option Addr) (n c m d : Nat) (w : World) (h1 : RowIs w p n c) (h2 : RowIs w q m d) : Calls Try.prog 6 #[.slice p n c, .slice q m d] w fun e w' => e = .returned (.bool true) ∧ Below w.heap.size w w' := by
  by_cases h : 2046 < n ∨ 2046 < m
  · exact hides_long p q n c m d w h h1.max h2.max
  · obtain ⟨l, hl, hs⟩ := Src.of h1
    obtain ⟨k, hk, hks⟩ := Src.of h2
    exact hides_main p q n c m d w hs hks hl hk (by omega) (by omega)
end Go.Proofs.Ytedbfhbmpeogdaa.C8
