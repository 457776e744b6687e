/- ChainForks: all ways. -/
import Derived.Test.YtkiohhkmlpgdoaaDoorC12FkM
import Derived.Test.YtkiohhkmlpgdoaaDoorC12FkO
namespace Go.Proofs.YtkiohhkmlpgdoaaDoor.S7
open Go.RowKit
theorem forks_any (w : World) (a1 : Option Addr) (n1 c1 : Nat) (a2 : Option Addr) (n2 c2 : Nat) (m n : Int) (h1 : n1 ≤ 9223372036854775807 ∧ ∃ ls : List (List Nat), ls.length = n1 ∧ RowsIs w a1 ls) (h2 : n2 ≤ 9223372036854775807 ∧ ∃ ls : List (List Nat), ls.length = n2 ∧ RowsIs w a2 ls) :
    Calls Tryd.prog 5 #[.slice a1 n1 c1, .slice a2 n2 c2, .int .i64 m, .int .i64 n] w fun e w' => e = .returned (.bool true) ∧ Below w.heap.size w w' := by
  obtain ⟨x1, al, l1, r1⟩ := h1
  obtain ⟨x2, bl, l2, r2⟩ := h2
  cases s1 : sml al with
  | false => exact fk_o1 w a1 n1 c1 a2 n2 c2 m n al bl r1 l1 r2 l2 x1 x2 s1
  | true =>
    cases s2 : sml bl with
    | false => exact fk_o2 w a1 n1 c1 a2 n2 c2 m n al bl r1 l1 r2 l2 x1 x2 s1 s2
    | true =>
      by_cases k0 : 20 < n1
      · exact fk_o3 w a1 n1 c1 a2 n2 c2 m n al bl r1 l1 r2 l2 x1 x2 s1 s2 k0
      by_cases k1 : 20 < n2
      · exact fk_o4 w a1 n1 c1 a2 n2 c2 m n al bl r1 l1 r2 l2 x1 x2 s1 s2 k0 k1
      by_cases k2 : m < 1
      · exact fk_o5 w a1 n1 c1 a2 n2 c2 m n al bl r1 l1 r2 l2 x1 x2 s1 s2 k0 k1 k2
      by_cases k3 : 1099511627776 < m
      · exact fk_o6 w a1 n1 c1 a2 n2 c2 m n al bl r1 l1 r2 l2 x1 x2 s1 s2 k0 k1 k2 k3
      by_cases k4 : n < 1
      · exact fk_o7 w a1 n1 c1 a2 n2 c2 m n al bl r1 l1 r2 l2 x1 x2 s1 s2 k0 k1 k2 k3 k4
      by_cases k5 : 1099511627776 < n
      · exact fk_o8 w a1 n1 c1 a2 n2 c2 m n al bl r1 l1 r2 l2 x1 x2 s1 s2 k0 k1 k2 k3 k4 k5
      obtain ⟨m', rfl⟩ : ∃ m' : Nat, m = (m' : Int) := ⟨m.toNat, by omega⟩
      obtain ⟨n', rfl⟩ : ∃ n' : Nat, n = (n' : Int) := ⟨n.toNat, by omega⟩
      exact fk_main w a1 n1 c1 a2 n2 c2 m' n' al bl r1 l1 r2 l2 s1 s2 (by omega) (by omega) (by omega) (by omega)
end Go.Proofs.YtkiohhkmlpgdoaaDoor.S7
