/- The contracts of EqualFunc and rightWraps. -/
import Derived.Test.YtchoiioeeepoaaaE9Leaf
namespace Go.Proofs.Ytchoiioeeepoaaa.E9
open Go.RowKit C8
theorem bel_alloc {w : World} {B : Nat} (h : B ≤ w.heap.size) (o : Obj) : Below B w (w.alloc o) := (Below.refl _ w).alloc h _
theorem take_ext {α : Type} {a b : List α} {j : Nat} (ha : j < a.length) (hb : j < b.length) (h : a.take j = b.take j) (he : a[j] = b[j]) : a.take (j + 1) = b.take (j + 1) := by
  rw [List.take_succ_eq_append_getElem ha, List.take_succ_eq_append_getElem hb, h, he]
theorem wok_drop {last : Int} {ws : List (Int × List Nat)} {j : Nat} (h : j < ws.length) : wok last (ws.drop j) = (decide (last + 1 ≤ ws[j].1 ∧ ws[j].1 ≤ 16) && decide (ws[j].2.length = 48) && wok ws[j].1 (ws.drop (j + 1))) := by
  rw [List.drop_eq_getElem_cons h, wok]
end Go.Proofs.Ytchoiioeeepoaaa.E9
