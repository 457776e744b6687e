/- The contracts of Sum, Code and Key of a suite of signs. -/
import Derived.Test.YtkiohhkmlpgdoaaDoorS7Sign
namespace Go.Proofs.YtkiohhkmlpgdoaaDoor.S7
open Go.RowKit
theorem own_older {w : World} {base base' : Nat} {v : Value} {e size n : Nat} {xs : List Value} (h : w.ownsRow base e size v n xs) (hb : base' ≤ base) : w.ownsRow base' e size v n xs := by
  obtain ⟨h1, h2 | ⟨g, cap, cur, e1, e2, e3⟩⟩ := h
  · exact ⟨h1, .inl h2⟩
  · exact ⟨h1, .inr ⟨g, cap, cur, e1, Nat.le_trans hb e2, e3⟩⟩
set_option maxHeartbeats 1000000 in
theorem Sum_one (l : List Nat) (g o c : Nat) (v : Value) (p q m x : Nat) (L : List Su.Thing) (w : World) (h : SuIs w p q m x L) (hc : w.cell? ⟨g, o, none⟩ = some v) (hv : Src w v l) (hl : l.length ≤ 50000) (hL : L.length < 1000000) :
    Calls Tryd.prog 35 #[.pointer (some ⟨p, 0, none⟩), .slice (some ⟨g, o, none⟩) 1 c] w fun e w' => ∃ v, e = .returned v ∧ w'.ownsRow w.heap.size 5 1 v 32 (ints .u8 (Su.sign 72 (Su.num L 72 [] l))) ∧ SuIs w' p q m x (Su.add L 72 [] l) ∧ Only [p, m] w w' := by
  have HJ : Hid (Calls Tryd.prog 44 #[.slice (some ⟨g, o, none⟩) 1 c] w fun e w' => e = .returned (.string (strB l)) ∧ Below w.heap.size w w') := joined_one g o c v w hc hv hl
  have HG : Hid (∀ w1, SuIs w1 p q m x L → Calls Tryd.prog 43 #[.pointer (some ⟨p, 0, none⟩), thingV 72 [] l] w1 fun e w' => ∃ v, e = .returned v ∧ w'.ownsRow w1.heap.size 5 1 v 32 (ints .u8 (Su.sign 72 (Su.num L 72 [] l))) ∧ SuIs w' p q m x (Su.add L 72 [] l) ∧ Only [p, m] w1 w') := fun w1 h1 => signOf_any 72 [] l p q m x L w1 h1 (.inl rfl) (fun y hy => by simp at hy) hv.small hL
  have HH : Hid (SuIs w p q m x L) := h
  obtain ⟨_, _, c2, _⟩ := cells3 h.box
  clear h hc hv hl
  go_enter Tryd.func35, Tryd.ntmps35
  go_wp2_with fail
  refine HJ.out.mono ?_
  rintro e w1 ⟨rfl, hb⟩
  have HS1 : Hid (SuIs w1 p q m x L) := HH.out.below hb
  have HB1 : Hid (Below w.heap.size w w1) := hb
  clear hb c2 HJ
  go_wp2_with fail
  refine (HG.out w1 HS1.out).mono ?_
  rintro e w2 ⟨u, rfl, ho, hs, hn⟩
  have HO : Hid (w2.ownsRow w.heap.size 5 1 u 32 (ints .u8 (Su.sign 72 (Su.num L 72 [] l)))) := own_older ho HB1.out.size
  have HS : Hid (SuIs w2 p q m x (Su.add L 72 [] l)) := hs
  have HN : Hid (Only [p, m] w w2) := (Only.of_below HB1.out _).trans hn
  clear ho hs hn
  go_wp2_with fail
  go_ret
  exact ⟨_, rfl, HO.out, HS.out, HN.out⟩
end Go.Proofs.YtkiohhkmlpgdoaaDoor.S7
