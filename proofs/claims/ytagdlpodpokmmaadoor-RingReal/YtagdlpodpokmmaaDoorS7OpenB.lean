/- The contract of Open of a suite of signs, where the box is found. -/
import Derived.Test.YtagdlpodpokmmaaDoorS7Open
namespace Go.Proofs.YtagdlpodpokmmaaDoor.S7
open Go.RowKit
set_option maxHeartbeats 1000000 in
set_option maxRecDepth 10000 in
theorem Open_other (u : Su.Thing) (k n o : List Nat) (kv nv ov bv : Value) (pk pn po pb : Option Addr) (kl ck nl cn ol co bl cb : Nat) (p q : Nat) (w : World) (hkv : kv = .slice pk kl ck) (hnv : nv = .slice pn nl cn) (hov : ov = .slice po ol co) (hbv : bv = .slice pb bl cb)
    (c2 : w.cell? ⟨p, 2, none⟩ = some (.pointer (some ⟨q, 0, none⟩)))
    (HSZ : Hid (∀ w1, Calls Tryd.prog 40 #[kv, nv] w1 fun e w' => e = .returned (.bool true) ∧ w' = w1))
    (HLK : Hid (∀ w1, Below w.heap.size w w1 → Calls Tryd.prog 41 #[kv, nv, ov] w1 fun e w' => e = .returned (.agg (lockV k n o)) ∧ Below w1.heap.size w1 w'))
    (HF : Hid (Calls Tryd.prog 44 #[.pointer (some ⟨q, 0, none⟩), bv] w fun e w' => e = .returned (findSays (some u)) ∧ Below w.heap.size w w'))
    (hneq : ∀ w, (binOp .neq 74 (.agg (lockV u.2.1 u.2.2.1 u.2.2.2.1)) (.agg (lockV k n o))).run Tryd.prog w = .ok (.bool true) w) :
    Calls Tryd.prog 29 #[.pointer (some ⟨p, 0, none⟩), kv, nv, ov, bv] w fun e w' => e = .returned (.tuple #[.slice none 0 0, .int .i64 20]) ∧ Below w.heap.size w w' := by
  subst hkv hnv hov hbv
  unfold lockV at hneq HLK
  go_enter Tryd.func29, Tryd.ntmps29
  go_wp2_with fail
  refine (HSZ.out _).mono ?_
  rintro e w1 ⟨rfl, rfl⟩
  clear HSZ
  go_wp2_with fail
  refine HF.out.mono ?_
  rintro e w2 ⟨rfl, hb⟩
  have HB : Hid (Below w1.heap.size w1 w2) := hb
  clear hb HF c2
  unfold findSays contentV
  have HB3 : Hid (Below w1.heap.size w1 (w2.alloc (.cells #[.string (strB u.2.1), .string (strB u.2.2.1), .string (strB u.2.2.2.1), .string (strB u.2.2.2.2)] 77))) := HB.out.alloc HB.out.size _
  have HN3 : Hid ((w2.alloc (.cells #[.string (strB u.2.1), .string (strB u.2.2.1), .string (strB u.2.2.2.1), .string (strB u.2.2.2.2)] 77)).heap[w2.heap.size]? = some (.cells #[.string (strB u.2.1), .string (strB u.2.2.1), .string (strB u.2.2.2.1), .string (strB u.2.2.2.2)] 77 (0, 0))) := heap_alloc_new w2 _
  have HLK4 : Hid (Calls Tryd.prog 41 #[.slice pk kl ck, .slice pn nl cn, .slice po ol co] (w2.alloc (.cells #[.string (strB u.2.1), .string (strB u.2.2.1), .string (strB u.2.2.2.1), .string (strB u.2.2.2.2)] 77)).drew fun e w' => e = .returned (.agg #[.string (strB k), .string (strB n), .string (strB o)]) ∧ Below (w2.alloc (.cells #[.string (strB u.2.1), .string (strB u.2.2.1), .string (strB u.2.2.2.1), .string (strB u.2.2.2.2)] 77)).heap.size (w2.alloc (.cells #[.string (strB u.2.1), .string (strB u.2.2.1), .string (strB u.2.2.2.1), .string (strB u.2.2.2.2)] 77)) w') := (HLK.out _ (HB3.out.trans (below_drewN 1 _ _))).mono (fun _ _ ⟨h1, h2⟩ => ⟨h1, (below_drewN 1 _ _).trans h2⟩)
  clear HLK
  go_wp2_with fail
  go_region_with ((go_at_call 41; refine HLK4.out.mono ?_; rintro e w4 ⟨rfl, hb4⟩; obtain ⟨y0, y1, y2, y3, _⟩ := cells4 ((hb4.block _ (Array.getElem?_eq_some_iff.1 HN3.out).1).trans HN3.out); have HB4 : Hid (Below w1.heap.size w1 w4) := HB3.out.trans (hb4.mono HB3.out.size); clear hb4))
  all_goals
    go_wp2_with fail
    refine bodyPost_ret (results_tmp2 rfl _ _ _) rfl ?_
    exact ⟨rfl, HB4.out⟩
end Go.Proofs.YtagdlpodpokmmaaDoor.S7
