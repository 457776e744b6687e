/- ChainPlays: what is let go; all of it. -/
import Derived.Test.YtkiohhkmlpgdoaaDoorC12Pl
namespace Go.Proofs.YtkiohhkmlpgdoaaDoor.S7
open Go.RowKit
set_option maxHeartbeats 4000000 in
set_option maxRecDepth 10000 in
theorem pl_small (w : World) (col : Int) (a1 : Option Addr) (n1 c1 : Nat) (al : List (List Nat)) (ix : Int) (sv : Value) (h1 : RowsIs w a1 al) (hn1 : al.length = n1) (mx1 : n1 ≤ 9223372036854775807) (hs1 : sml al = false) :
    Calls Tryd.prog 3 #[.int .i64 col, .slice a1 n1 c1, .int .i64 ix, sv] w fun e w' => e = .returned (.bool true) ∧ Below w.heap.size w w' := by
  have H1 : Hid (RowsIs w a1 al) := h1
  have HN1 : Hid (al.length = n1 ∧ n1 ≤ 9223372036854775807 ∧ sml al = false) := ⟨hn1, mx1, hs1⟩
  clear h1 hn1 mx1 hs1
  go_enter Tryd.func3, Tryd.ntmps3
  go_wp2_with fail
  refine (anchor_any w).mono ?_
  rintro e w1 ⟨rfl, hb1⟩
  have HB1 : Hid (Below w.heap.size w w1) := hb1
  clear hb1
  go_wp2_with fail
  refine (small_any w w1 a1 n1 c1 al H1.out HB1.out HN1.out.1 HN1.out.2.1 HN1.out.2.2).mono ?_
  rintro e w9 ⟨rfl, hw9⟩
  obtain rfl : w1 = w9 := hw9.symm
  clear hw9
  go_wp2_with fail
  go_ret
  exact ⟨rfl, HB1.out⟩
set_option maxHeartbeats 4000000 in
set_option maxRecDepth 10000 in
theorem pl_big (w : World) (col : Int) (a1 : Option Addr) (n1 c1 : Nat) (al : List (List Nat)) (ix : Int) (sq : Option Addr) (sn sc : Nat) (h1 : RowsIs w a1 al) (hn1 : al.length = n1) (mx1 : n1 ≤ 9223372036854775807) (hs1 : sml al = true) (k : 100 < sn) :
    Calls Tryd.prog 3 #[.int .i64 col, .slice a1 n1 c1, .int .i64 ix, .slice sq sn sc] w fun e w' => e = .returned (.bool true) ∧ Below w.heap.size w w' := by
  have H1 : Hid (RowsIs w a1 al) := h1
  have HN1 : Hid (al.length = n1 ∧ n1 ≤ 9223372036854775807 ∧ sml al = true) := ⟨hn1, mx1, hs1⟩
  have k0 : (100 : Int) < (sn : Int) := by omega
  clear h1 hn1 mx1 hs1
  go_enter Tryd.func3, Tryd.ntmps3
  go_wp2_with fail
  refine (anchor_any w).mono ?_
  rintro e w1 ⟨rfl, hb1⟩
  have HB1 : Hid (Below w.heap.size w w1) := hb1
  clear hb1
  go_wp2_with fail
  refine (small_any w w1 a1 n1 c1 al H1.out HB1.out HN1.out.1 HN1.out.2.1 HN1.out.2.2).mono ?_
  rintro e w9 ⟨rfl, hw9⟩
  obtain rfl : w1 = w9 := hw9.symm
  clear hw9
  go_wp2_with fail
  go_ret
  exact ⟨rfl, HB1.out⟩
set_option maxHeartbeats 4000000 in
set_option maxRecDepth 10000 in
theorem pl_range (w : World) (col : Int) (a1 : Option Addr) (n1 c1 : Nat) (al : List (List Nat)) (ix : Int) (sq : Option Addr) (sn sc : Nat) (h1 : RowsIs w a1 al) (hn1 : al.length = n1) (mx1 : n1 ≤ 9223372036854775807) (hs1 : sml al = true) (k : sn ≤ 100) (hc : col < 1 ∨ 1099511627776 < col) :
    Calls Tryd.prog 3 #[.int .i64 col, .slice a1 n1 c1, .int .i64 ix, .slice sq sn sc] w fun e w' => e = .returned (.bool true) ∧ Below w.heap.size w w' := by
  have H1 : Hid (RowsIs w a1 al) := h1
  have HN1 : Hid (al.length = n1 ∧ n1 ≤ 9223372036854775807 ∧ sml al = true) := ⟨hn1, mx1, hs1⟩
  have k0 : ¬ (100 : Int) < (sn : Int) := by omega
  have HNW : Hid (∀ w' sp, Calls Tryd.prog 12 #[.pointer sp, .int .i64 col] w' fun e w'' => e = .returned (.tuple #[.pointer none, .int .i64 12]) ∧ Below w'.heap.size w' w'') := fun w' sp => by
    rcases hc with e | e
    · exact New_low w' _ col e
    · exact New_high w' sp col e
  clear h1 hn1 mx1 hs1 k
  go_enter Tryd.func3, Tryd.ntmps3
  go_wp2_with fail
  refine (anchor_any w).mono ?_
  rintro e w1 ⟨rfl, hb1⟩
  have HB1 : Hid (Below w.heap.size w w1) := hb1
  clear hb1
  go_wp2_with fail
  refine (small_any w w1 a1 n1 c1 al H1.out HB1.out HN1.out.1 HN1.out.2.1 HN1.out.2.2).mono ?_
  rintro e w9 ⟨rfl, hw9⟩
  obtain rfl : w1 = w9 := hw9.symm
  clear hw9
  go_wp2_with fail
  refine (Signs_new w1).mono ?_
  rintro e w2 ⟨p, q, m, x, rfl, hs, hb⟩
  have HB2 : Hid (Below w.heap.size w (w2.alloc (.cells #[.slice none 0 0] 31))) := (HB1.out.trans (hb.mono HB1.out.size)).trans ((below_alloc' w2 _).mono (Nat.le_trans HB1.out.size hb.size))
  clear hs hb HB1
  go_wp2_with fail
  refine (HNW.out _ _).mono ?_
  rintro e w3 ⟨rfl, hb3⟩
  have HB3 : Hid (Below w.heap.size w w3) := HB2.out.trans (hb3.mono HB2.out.size)
  clear hb3 HB2 HNW
  by_cases h1 : col < 1
  · clear hc
    go_wp2_with fail
    go_ret
    exact ⟨rfl, HB3.out⟩
  · have h2 : 1099511627776 < col := by omega
    clear hc
    go_wp2_with fail
    go_ret
    exact ⟨rfl, HB3.out⟩
theorem plays_law (w : World) (col : Int) (a1 : Option Addr) (n1 c1 : Nat) (ix : Int) (sq : Option Addr) (sn sc : Nat) (h1 : n1 ≤ 9223372036854775807 ∧ ∃ ls : List (List Nat), ls.length = n1 ∧ RowsIs w a1 ls) (h3 : RowIs w sq sn sc) :
    Calls Tryd.prog 3 #[.int .i64 col, .slice a1 n1 c1, .int .i64 ix, .slice sq sn sc] w fun e w' => e = .returned (.bool true) ∧ Below w.heap.size w w' := by
  obtain ⟨mx, al, hn, hr⟩ := h1
  obtain ⟨sl, _, hs⟩ := Src.of h3
  cases hsm : sml al with
  | false => exact pl_small w col a1 n1 c1 al ix _ hr hn mx hsm
  | true =>
    by_cases hk : sn ≤ 100
    · by_cases hc : col < 1 ∨ 1099511627776 < col
      · exact pl_range w col a1 n1 c1 al ix sq sn sc hr hn mx hsm hk hc
      · obtain ⟨n, rfl⟩ : ∃ n : Nat, col = (n : Int) := ⟨col.toNat, by omega⟩
        exact pl_main w n a1 n1 c1 al ix sq sn sc sl hr hn hsm hs hk (by omega)
    · exact pl_big w col a1 n1 c1 al ix sq sn sc hr hn mx hsm (by omega)
end Go.Proofs.YtkiohhkmlpgdoaaDoor.S7
