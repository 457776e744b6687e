/- The document's Sum: its contract. -/
import Derived.Test.YtkiohhkmlpgdoaaDoorS7SigO
import Derived.Test.YtkiohhkmlpgdoaaDoorC12Two
namespace Go.Proofs.YtkiohhkmlpgdoaaDoor.S7
open Go.RowKit
set_option maxHeartbeats 1000000 in
theorem rSum_any (tv : Value) (t : List Nat) (B d : Nat) (L : List Su.Thing) (w : World) (h : Doc B w d L) (ht : By B w tv t) (hB : B ≤ w.heap.size) (hL : L.length < 1000000) :
    Calls Tryd.prog 27 #[.pointer (some ⟨d, 0, none⟩), tv] w fun e w' => ∃ v, e = .returned v ∧ w'.ownsRow w.heap.size 5 1 v 32 (ints .u8 (Su.sign 72 (Su.num L 72 [] t))) ∧ Doc B w' d (Su.add L 72 [] t) ∧ Kx [some 31, some 87] B w w' := by
  have HO : Hid (Calls Tryd.prog 37 #[.pointer (some ⟨d, 0, none⟩), .agg #[.int .i64 72, (.slice none 0 0), .slice none 0 0, .slice none 0 0, tv]] w fun e w' => e = .returned (.int .i64 (Su.num L 72 [] t : Int)) ∧ Doc B w' d (Su.add L 72 [] t) ∧ Kx [some 31, some 87] B w w') := once_any 72 (.slice none 0 0) tv [] t B d L w h (By.nil _ _) ht hB hL
  obtain ⟨m, HM⟩ : ∃ m, Hid (Su.num L 72 [] t = m) := ⟨_, rfl⟩
  have HML : Hid (m ≤ 1099511627776) := by have := (Su.num_le L 72 [] t).2; rw [HM.out] at this; show _ ≤ _; omega
  rw [HM.out] at HO ⊢
  have HB : Hid (B ≤ w.heap.size) := hB
  obtain ⟨pt, ct, rfl, _⟩ := ht.src.slice
  clear h ht hB hL
  generalize t.length = tl at *
  go_enter Tryd.func27, Tryd.ntmps27
  go_wp2_with fail
  refine HO.out.mono ?_
  rintro e w1 ⟨rfl, hd, hk1⟩
  have HD1 : Hid (Doc B w1 d (Su.add L 72 [] t)) := hd
  have HK1 : Hid (Kx [some 31, some 87] B w w1) := hk1
  clear hd hk1 HO
  go_wp2_with fail
  refine (rSign_any 72 m w1 (by decide) HML.out).mono ?_
  rintro e w2 ⟨v, rfl, ho, hb⟩
  have HO2 : Hid (w2.ownsRow w.heap.size 5 1 v 32 (ints .u8 (Su.sign 72 m))) := own_older ho HK1.out.low.size
  have HD2 : Hid (Doc B w2 d (Su.add L 72 [] t)) := HD1.out.below hb
  have HK2 : Hid (Kx [some 31, some 87] B w w2) := HK1.out.trans (Kx.of_below hb (Nat.le_trans HB.out HK1.out.low.size))
  clear ho hb HD1 HK1
  go_wp2_with fail
  go_ret
  exact ⟨_, rfl, HO2.out, HD2.out, HK2.out⟩
end Go.Proofs.YtkiohhkmlpgdoaaDoor.S7
