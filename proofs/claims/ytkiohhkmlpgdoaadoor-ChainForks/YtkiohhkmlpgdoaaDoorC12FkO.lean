/- The walk of ChainForks. -/
import Derived.Test.YtkiohhkmlpgdoaaDoorC12Small
namespace Go.Proofs.YtkiohhkmlpgdoaaDoor.S7
open Go.RowKit
set_option maxHeartbeats 4000000 in
set_option maxRecDepth 20000 in
theorem fk_o1 (w : World) (a1 : Option Addr) (n1 c1 : Nat) (a2 : Option Addr) (n2 c2 : Nat) (m n : Int) (al bl : List (List Nat)) (h1 : RowsIs w a1 al) (hn1 : al.length = n1) (h2 : RowsIs w a2 bl) (hn2 : bl.length = n2) (mx1 : n1 ≤ 9223372036854775807) (mx2 : n2 ≤ 9223372036854775807) (hs1 : sml al = false) :
    Calls Tryd.prog 5 #[.slice a1 n1 c1, .slice a2 n2 c2, .int .i64 m, .int .i64 n] w fun e w' => e = .returned (.bool true) ∧ Below w.heap.size w w' := by
  have H1 : Hid (RowsIs w a1 al) := h1
  have HN1 : Hid (al.length = n1) := hn1
  have H2 : Hid (RowsIs w a2 bl) := h2
  have HN2 : Hid (bl.length = n2) := hn2
  have HMX : Hid (n1 ≤ 9223372036854775807 ∧ n2 ≤ 9223372036854775807) := ⟨mx1, mx2⟩
  clear mx1 mx2 h1 hn1 h2 hn2
  have HS1 : Hid (sml al = false) := hs1
  clear hs1
  go_enter Tryd.func5, Tryd.ntmps5
  go_wp2_with fail
  refine (anchor_any w).mono ?_
  rintro e w1 ⟨rfl, hb1⟩
  have HB1 : Hid (Below w.heap.size w w1) := hb1
  clear hb1
  go_wp2_with fail
  refine (small_any w w1 a1 n1 c1 al H1.out HB1.out HN1.out HMX.out.1 (s := false) HS1.out).mono ?_
  rintro e w9 ⟨rfl, hw9⟩
  obtain rfl : w1 = w9 := hw9.symm
  clear hw9
  go_wp2_with fail
  go_ret
  exact ⟨rfl, HB1.out⟩
set_option maxHeartbeats 4000000 in
set_option maxRecDepth 20000 in
theorem fk_o2 (w : World) (a1 : Option Addr) (n1 c1 : Nat) (a2 : Option Addr) (n2 c2 : Nat) (m n : Int) (al bl : List (List Nat)) (h1 : RowsIs w a1 al) (hn1 : al.length = n1) (h2 : RowsIs w a2 bl) (hn2 : bl.length = n2) (mx1 : n1 ≤ 9223372036854775807) (mx2 : n2 ≤ 9223372036854775807) (hs1 : sml al = true) (hs2 : sml bl = false) :
    Calls Tryd.prog 5 #[.slice a1 n1 c1, .slice a2 n2 c2, .int .i64 m, .int .i64 n] w fun e w' => e = .returned (.bool true) ∧ Below w.heap.size w w' := by
  have H1 : Hid (RowsIs w a1 al) := h1
  have HN1 : Hid (al.length = n1) := hn1
  have H2 : Hid (RowsIs w a2 bl) := h2
  have HN2 : Hid (bl.length = n2) := hn2
  have HMX : Hid (n1 ≤ 9223372036854775807 ∧ n2 ≤ 9223372036854775807) := ⟨mx1, mx2⟩
  clear mx1 mx2 h1 hn1 h2 hn2
  have HS1 : Hid (sml al = true) := hs1
  clear hs1
  have HS2 : Hid (sml bl = false) := hs2
  clear hs2
  go_enter Tryd.func5, Tryd.ntmps5
  go_wp2_with fail
  refine (anchor_any w).mono ?_
  rintro e w1 ⟨rfl, hb1⟩
  have HB1 : Hid (Below w.heap.size w w1) := hb1
  clear hb1
  go_wp2_with fail
  refine (small_any w w1 a1 n1 c1 al H1.out HB1.out HN1.out HMX.out.1 (s := true) HS1.out).mono ?_
  rintro e w9 ⟨rfl, hw9⟩
  obtain rfl : w1 = w9 := hw9.symm
  clear hw9
  go_wp2_with fail
  refine (small_any w w1 a2 n2 c2 bl H2.out HB1.out HN2.out HMX.out.2 (s := false) HS2.out).mono ?_
  rintro e w9 ⟨rfl, hw9⟩
  obtain rfl : w1 = w9 := hw9.symm
  clear hw9
  go_wp2_with fail
  go_ret
  exact ⟨rfl, HB1.out⟩
set_option maxHeartbeats 4000000 in
set_option maxRecDepth 20000 in
theorem fk_o3 (w : World) (a1 : Option Addr) (n1 c1 : Nat) (a2 : Option Addr) (n2 c2 : Nat) (m n : Int) (al bl : List (List Nat)) (h1 : RowsIs w a1 al) (hn1 : al.length = n1) (h2 : RowsIs w a2 bl) (hn2 : bl.length = n2) (mx1 : n1 ≤ 9223372036854775807) (mx2 : n2 ≤ 9223372036854775807) (hs1 : sml al = true) (hs2 : sml bl = true)  (k0 : 20 < n1) :
    Calls Tryd.prog 5 #[.slice a1 n1 c1, .slice a2 n2 c2, .int .i64 m, .int .i64 n] w fun e w' => e = .returned (.bool true) ∧ Below w.heap.size w w' := by
  have H1 : Hid (RowsIs w a1 al) := h1
  have HN1 : Hid (al.length = n1) := hn1
  have H2 : Hid (RowsIs w a2 bl) := h2
  have HN2 : Hid (bl.length = n2) := hn2
  have HMX : Hid (n1 ≤ 9223372036854775807 ∧ n2 ≤ 9223372036854775807) := ⟨mx1, mx2⟩
  clear mx1 mx2 h1 hn1 h2 hn2
  have HS1 : Hid (sml al = true) := hs1
  clear hs1
  have HS2 : Hid (sml bl = true) := hs2
  clear hs2
  have q0 : (20 : Int) < (n1 : Int) := by omega
  go_enter Tryd.func5, Tryd.ntmps5
  go_wp2_with fail
  refine (anchor_any w).mono ?_
  rintro e w1 ⟨rfl, hb1⟩
  have HB1 : Hid (Below w.heap.size w w1) := hb1
  clear hb1
  go_wp2_with fail
  refine (small_any w w1 a1 n1 c1 al H1.out HB1.out HN1.out HMX.out.1 (s := true) HS1.out).mono ?_
  rintro e w9 ⟨rfl, hw9⟩
  obtain rfl : w1 = w9 := hw9.symm
  clear hw9
  go_wp2_with fail
  refine (small_any w w1 a2 n2 c2 bl H2.out HB1.out HN2.out HMX.out.2 (s := true) HS2.out).mono ?_
  rintro e w9 ⟨rfl, hw9⟩
  obtain rfl : w1 = w9 := hw9.symm
  clear hw9
  go_wp2_with fail
  go_ret
  exact ⟨rfl, HB1.out⟩
set_option maxHeartbeats 4000000 in
set_option maxRecDepth 20000 in
theorem fk_o4 (w : World) (a1 : Option Addr) (n1 c1 : Nat) (a2 : Option Addr) (n2 c2 : Nat) (m n : Int) (al bl : List (List Nat)) (h1 : RowsIs w a1 al) (hn1 : al.length = n1) (h2 : RowsIs w a2 bl) (hn2 : bl.length = n2) (mx1 : n1 ≤ 9223372036854775807) (mx2 : n2 ≤ 9223372036854775807) (hs1 : sml al = true) (hs2 : sml bl = true) (k0 : ¬ 20 < n1) (k1 : 20 < n2) :
    Calls Tryd.prog 5 #[.slice a1 n1 c1, .slice a2 n2 c2, .int .i64 m, .int .i64 n] w fun e w' => e = .returned (.bool true) ∧ Below w.heap.size w w' := by
  have H1 : Hid (RowsIs w a1 al) := h1
  have HN1 : Hid (al.length = n1) := hn1
  have H2 : Hid (RowsIs w a2 bl) := h2
  have HN2 : Hid (bl.length = n2) := hn2
  have HMX : Hid (n1 ≤ 9223372036854775807 ∧ n2 ≤ 9223372036854775807) := ⟨mx1, mx2⟩
  clear mx1 mx2 h1 hn1 h2 hn2
  have HS1 : Hid (sml al = true) := hs1
  clear hs1
  have HS2 : Hid (sml bl = true) := hs2
  clear hs2
  have q0 : ¬ (20 : Int) < (n1 : Int) := by omega
  have q1 : (20 : Int) < (n2 : Int) := by omega
  go_enter Tryd.func5, Tryd.ntmps5
  go_wp2_with fail
  refine (anchor_any w).mono ?_
  rintro e w1 ⟨rfl, hb1⟩
  have HB1 : Hid (Below w.heap.size w w1) := hb1
  clear hb1
  go_wp2_with fail
  refine (small_any w w1 a1 n1 c1 al H1.out HB1.out HN1.out HMX.out.1 (s := true) HS1.out).mono ?_
  rintro e w9 ⟨rfl, hw9⟩
  obtain rfl : w1 = w9 := hw9.symm
  clear hw9
  go_wp2_with fail
  refine (small_any w w1 a2 n2 c2 bl H2.out HB1.out HN2.out HMX.out.2 (s := true) HS2.out).mono ?_
  rintro e w9 ⟨rfl, hw9⟩
  obtain rfl : w1 = w9 := hw9.symm
  clear hw9
  go_wp2_with fail
  go_ret
  exact ⟨rfl, HB1.out⟩
set_option maxHeartbeats 4000000 in
set_option maxRecDepth 20000 in
theorem fk_o5 (w : World) (a1 : Option Addr) (n1 c1 : Nat) (a2 : Option Addr) (n2 c2 : Nat) (m n : Int) (al bl : List (List Nat)) (h1 : RowsIs w a1 al) (hn1 : al.length = n1) (h2 : RowsIs w a2 bl) (hn2 : bl.length = n2) (mx1 : n1 ≤ 9223372036854775807) (mx2 : n2 ≤ 9223372036854775807) (hs1 : sml al = true) (hs2 : sml bl = true) (k0 : ¬ 20 < n1) (k1 : ¬ 20 < n2) (k2 : m < 1) :
    Calls Tryd.prog 5 #[.slice a1 n1 c1, .slice a2 n2 c2, .int .i64 m, .int .i64 n] w fun e w' => e = .returned (.bool true) ∧ Below w.heap.size w w' := by
  have H1 : Hid (RowsIs w a1 al) := h1
  have HN1 : Hid (al.length = n1) := hn1
  have H2 : Hid (RowsIs w a2 bl) := h2
  have HN2 : Hid (bl.length = n2) := hn2
  have HMX : Hid (n1 ≤ 9223372036854775807 ∧ n2 ≤ 9223372036854775807) := ⟨mx1, mx2⟩
  clear mx1 mx2 h1 hn1 h2 hn2
  have HS1 : Hid (sml al = true) := hs1
  clear hs1
  have HS2 : Hid (sml bl = true) := hs2
  clear hs2
  have q0 : ¬ (20 : Int) < (n1 : Int) := by omega
  have q1 : ¬ (20 : Int) < (n2 : Int) := by omega
  have q2 : m < 1 := by omega
  go_enter Tryd.func5, Tryd.ntmps5
  go_wp2_with fail
  refine (anchor_any w).mono ?_
  rintro e w1 ⟨rfl, hb1⟩
  have HB1 : Hid (Below w.heap.size w w1) := hb1
  clear hb1
  go_wp2_with fail
  refine (small_any w w1 a1 n1 c1 al H1.out HB1.out HN1.out HMX.out.1 (s := true) HS1.out).mono ?_
  rintro e w9 ⟨rfl, hw9⟩
  obtain rfl : w1 = w9 := hw9.symm
  clear hw9
  go_wp2_with fail
  refine (small_any w w1 a2 n2 c2 bl H2.out HB1.out HN2.out HMX.out.2 (s := true) HS2.out).mono ?_
  rintro e w9 ⟨rfl, hw9⟩
  obtain rfl : w1 = w9 := hw9.symm
  clear hw9
  go_wp2_with fail
  go_ret
  exact ⟨rfl, HB1.out⟩
set_option maxHeartbeats 4000000 in
set_option maxRecDepth 20000 in
theorem fk_o6 (w : World) (a1 : Option Addr) (n1 c1 : Nat) (a2 : Option Addr) (n2 c2 : Nat) (m n : Int) (al bl : List (List Nat)) (h1 : RowsIs w a1 al) (hn1 : al.length = n1) (h2 : RowsIs w a2 bl) (hn2 : bl.length = n2) (mx1 : n1 ≤ 9223372036854775807) (mx2 : n2 ≤ 9223372036854775807) (hs1 : sml al = true) (hs2 : sml bl = true) (k0 : ¬ 20 < n1) (k1 : ¬ 20 < n2) (k2 : ¬ m < 1) (k3 : 1099511627776 < m) :
    Calls Tryd.prog 5 #[.slice a1 n1 c1, .slice a2 n2 c2, .int .i64 m, .int .i64 n] w fun e w' => e = .returned (.bool true) ∧ Below w.heap.size w w' := by
  have H1 : Hid (RowsIs w a1 al) := h1
  have HN1 : Hid (al.length = n1) := hn1
  have H2 : Hid (RowsIs w a2 bl) := h2
  have HN2 : Hid (bl.length = n2) := hn2
  have HMX : Hid (n1 ≤ 9223372036854775807 ∧ n2 ≤ 9223372036854775807) := ⟨mx1, mx2⟩
  clear mx1 mx2 h1 hn1 h2 hn2
  have HS1 : Hid (sml al = true) := hs1
  clear hs1
  have HS2 : Hid (sml bl = true) := hs2
  clear hs2
  have q0 : ¬ (20 : Int) < (n1 : Int) := by omega
  have q1 : ¬ (20 : Int) < (n2 : Int) := by omega
  have q2 : ¬ m < 1 := by omega
  have q3 : 1099511627776 < m := by omega
  go_enter Tryd.func5, Tryd.ntmps5
  go_wp2_with fail
  refine (anchor_any w).mono ?_
  rintro e w1 ⟨rfl, hb1⟩
  have HB1 : Hid (Below w.heap.size w w1) := hb1
  clear hb1
  go_wp2_with fail
  refine (small_any w w1 a1 n1 c1 al H1.out HB1.out HN1.out HMX.out.1 (s := true) HS1.out).mono ?_
  rintro e w9 ⟨rfl, hw9⟩
  obtain rfl : w1 = w9 := hw9.symm
  clear hw9
  go_wp2_with fail
  refine (small_any w w1 a2 n2 c2 bl H2.out HB1.out HN2.out HMX.out.2 (s := true) HS2.out).mono ?_
  rintro e w9 ⟨rfl, hw9⟩
  obtain rfl : w1 = w9 := hw9.symm
  clear hw9
  go_wp2_with fail
  go_ret
  exact ⟨rfl, HB1.out⟩
set_option maxHeartbeats 4000000 in
set_option maxRecDepth 20000 in
theorem fk_o7 (w : World) (a1 : Option Addr) (n1 c1 : Nat) (a2 : Option Addr) (n2 c2 : Nat) (m n : Int) (al bl : List (List Nat)) (h1 : RowsIs w a1 al) (hn1 : al.length = n1) (h2 : RowsIs w a2 bl) (hn2 : bl.length = n2) (mx1 : n1 ≤ 9223372036854775807) (mx2 : n2 ≤ 9223372036854775807) (hs1 : sml al = true) (hs2 : sml bl = true) (k0 : ¬ 20 < n1) (k1 : ¬ 20 < n2) (k2 : ¬ m < 1) (k3 : ¬ 1099511627776 < m) (k4 : n < 1) :
    Calls Tryd.prog 5 #[.slice a1 n1 c1, .slice a2 n2 c2, .int .i64 m, .int .i64 n] w fun e w' => e = .returned (.bool true) ∧ Below w.heap.size w w' := by
  have H1 : Hid (RowsIs w a1 al) := h1
  have HN1 : Hid (al.length = n1) := hn1
  have H2 : Hid (RowsIs w a2 bl) := h2
  have HN2 : Hid (bl.length = n2) := hn2
  have HMX : Hid (n1 ≤ 9223372036854775807 ∧ n2 ≤ 9223372036854775807) := ⟨mx1, mx2⟩
  clear mx1 mx2 h1 hn1 h2 hn2
  have HS1 : Hid (sml al = true) := hs1
  clear hs1
  have HS2 : Hid (sml bl = true) := hs2
  clear hs2
  have q0 : ¬ (20 : Int) < (n1 : Int) := by omega
  have q1 : ¬ (20 : Int) < (n2 : Int) := by omega
  have q2 : ¬ m < 1 := by omega
  have q3 : ¬ 1099511627776 < m := by omega
  have q4 : n < 1 := by omega
  go_enter Tryd.func5, Tryd.ntmps5
  go_wp2_with fail
  refine (anchor_any w).mono ?_
  rintro e w1 ⟨rfl, hb1⟩
  have HB1 : Hid (Below w.heap.size w w1) := hb1
  clear hb1
  go_wp2_with fail
  refine (small_any w w1 a1 n1 c1 al H1.out HB1.out HN1.out HMX.out.1 (s := true) HS1.out).mono ?_
  rintro e w9 ⟨rfl, hw9⟩
  obtain rfl : w1 = w9 := hw9.symm
  clear hw9
  go_wp2_with fail
  refine (small_any w w1 a2 n2 c2 bl H2.out HB1.out HN2.out HMX.out.2 (s := true) HS2.out).mono ?_
  rintro e w9 ⟨rfl, hw9⟩
  obtain rfl : w1 = w9 := hw9.symm
  clear hw9
  go_wp2_with fail
  go_ret
  exact ⟨rfl, HB1.out⟩
set_option maxHeartbeats 4000000 in
set_option maxRecDepth 20000 in
theorem fk_o8 (w : World) (a1 : Option Addr) (n1 c1 : Nat) (a2 : Option Addr) (n2 c2 : Nat) (m n : Int) (al bl : List (List Nat)) (h1 : RowsIs w a1 al) (hn1 : al.length = n1) (h2 : RowsIs w a2 bl) (hn2 : bl.length = n2) (mx1 : n1 ≤ 9223372036854775807) (mx2 : n2 ≤ 9223372036854775807) (hs1 : sml al = true) (hs2 : sml bl = true) (k0 : ¬ 20 < n1) (k1 : ¬ 20 < n2) (k2 : ¬ m < 1) (k3 : ¬ 1099511627776 < m) (k4 : ¬ n < 1) (k5 : 1099511627776 < n) :
    Calls Tryd.prog 5 #[.slice a1 n1 c1, .slice a2 n2 c2, .int .i64 m, .int .i64 n] w fun e w' => e = .returned (.bool true) ∧ Below w.heap.size w w' := by
  have H1 : Hid (RowsIs w a1 al) := h1
  have HN1 : Hid (al.length = n1) := hn1
  have H2 : Hid (RowsIs w a2 bl) := h2
  have HN2 : Hid (bl.length = n2) := hn2
  have HMX : Hid (n1 ≤ 9223372036854775807 ∧ n2 ≤ 9223372036854775807) := ⟨mx1, mx2⟩
  clear mx1 mx2 h1 hn1 h2 hn2
  have HS1 : Hid (sml al = true) := hs1
  clear hs1
  have HS2 : Hid (sml bl = true) := hs2
  clear hs2
  have q0 : ¬ (20 : Int) < (n1 : Int) := by omega
  have q1 : ¬ (20 : Int) < (n2 : Int) := by omega
  have q2 : ¬ m < 1 := by omega
  have q3 : ¬ 1099511627776 < m := by omega
  have q4 : ¬ n < 1 := by omega
  have q5 : 1099511627776 < n := by omega
  go_enter Tryd.func5, Tryd.ntmps5
  go_wp2_with fail
  refine (anchor_any w).mono ?_
  rintro e w1 ⟨rfl, hb1⟩
  have HB1 : Hid (Below w.heap.size w w1) := hb1
  clear hb1
  go_wp2_with fail
  refine (small_any w w1 a1 n1 c1 al H1.out HB1.out HN1.out HMX.out.1 (s := true) HS1.out).mono ?_
  rintro e w9 ⟨rfl, hw9⟩
  obtain rfl : w1 = w9 := hw9.symm
  clear hw9
  go_wp2_with fail
  refine (small_any w w1 a2 n2 c2 bl H2.out HB1.out HN2.out HMX.out.2 (s := true) HS2.out).mono ?_
  rintro e w9 ⟨rfl, hw9⟩
  obtain rfl : w1 = w9 := hw9.symm
  clear hw9
  go_wp2_with fail
  go_ret
  exact ⟨rfl, HB1.out⟩
end Go.Proofs.YtkiohhkmlpgdoaaDoor.S7
