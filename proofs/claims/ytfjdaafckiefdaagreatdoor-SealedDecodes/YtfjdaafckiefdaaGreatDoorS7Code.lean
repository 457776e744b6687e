/- The contract of Code of a suite of signs. -/
import Derived.Test.YtfjdaafckiefdaaGreatDoorMgT
namespace Go.Proofs.YtfjdaafckiefdaaGreatDoor.S7
open Go.RowKit
set_option maxHeartbeats 1000000 in
theorem Code_one (k l : List Nat) (g o c : Nat) (kv v : Value) (p q m x : Nat) (L : List Su.Thing) (w : World) (h : SuIs w p q m x L) (hk : Src w kv k) (hc : w.cell? ⟨g, o, none⟩ = some v) (hv : Src w v l) (hl : l.length ≤ 50000) (hL : L.length < 1000000) :
    Calls Tryz.prog 106 #[.pointer (some ⟨p, 0, none⟩), kv, .slice (some ⟨g, o, none⟩) 1 c] w fun e w' => ∃ v, e = .returned v ∧ w'.ownsRow w.heap.size 5 1 v 32 (ints .u8 (Su.sign 77 (Su.num L 77 k l))) ∧ SuIs w' p q m x (Su.add L 77 k l) ∧ Only [p, m] w w' := by
  have HJ : Hid (∀ n, Calls Tryz.prog 128 #[.slice (some ⟨g, o, none⟩) 1 c] (w.drewN n) fun e w' => e = .returned (.string (strB l)) ∧ Below w.heap.size w w') := fun n =>
    (joined_one g o c v (w.drewN n) hc (hv.below (below_drewN n _ _)) hl).mono (fun _ _ ⟨h1, h2⟩ => ⟨h1, (below_drewN n w w.heap.size).trans h2⟩)
  have HK : Hid (∀ w1, Below w.heap.size w w1 → (convert 22 9 kv).run Tryz.prog w1 = .ok (.string (strB k)) w1) := fun w1 hb => conv_src (hk.below hb)
  have HG : Hid (∀ w1, Below w.heap.size w w1 → Calls Tryz.prog 127 #[.pointer (some ⟨p, 0, none⟩), thingV 77 k l] w1 fun e w' => ∃ v, e = .returned v ∧ w'.ownsRow w1.heap.size 5 1 v 32 (ints .u8 (Su.sign 77 (Su.num L 77 k l))) ∧ SuIs w' p q m x (Su.add L 77 k l) ∧ Only [p, m] w1 w') := fun w1 hb => signOf_any 77 k l p q m x L w1 (h.below hb) (.inr rfl) hk.small hv.small hL
  have hcv := HK.out w.drew (below_drewN 1 _ _)
  obtain ⟨_, _, c2, _⟩ := cells3 h.box
  obtain ⟨pk, ck, rfl, _⟩ := hk.slice
  clear h hc hv hl hk
  generalize k.length = kl at *
  go_enter Tryz.func106, Tryz.ntmps106
  go_wp2_with fail
  go_region_with ((first
    | (go_at_call 128; refine (HJ.out 1).mono ?_; rintro e w1 ⟨rfl, hb1⟩; have hcv1 := HK.out w1 hb1; have HB1 : Hid (Below w.heap.size w w1) := hb1; clear hb1)
    | (go_at_call 127; refine (HG.out _ HB1.out).mono ?_; rintro e w2 ⟨u, rfl, ho, hs, hn⟩; have HO : Hid (w2.ownsRow w.heap.size 5 1 u 32 (ints .u8 (Su.sign 77 (Su.num L 77 k l)))) := own_older ho HB1.out.size; have HS : Hid (SuIs w2 p q m x (Su.add L 77 k l)) := hs; have HN : Hid (Only [p, m] w w2) := (Only.of_below HB1.out _).trans hn; clear ho hs hn)))
  all_goals
    go_wp2_with fail
    go_ret
    exact ⟨_, rfl, HO.out, HS.out, HN.out⟩
end Go.Proofs.YtfjdaafckiefdaaGreatDoor.S7
