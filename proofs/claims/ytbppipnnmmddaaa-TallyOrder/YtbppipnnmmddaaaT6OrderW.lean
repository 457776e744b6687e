/- The walk of TallyOrder. -/
import Derived.Test.YtbppipnnmmddaaaT6MakesW
import Derived.Test.YtbppipnnmmddaaaT6Within
import Derived.Deep.RegionWith
namespace Go.Proofs.Ytbppipnnmmddaaa
open Go.RowKit Ieee
set_option maxHeartbeats 8000000 in
theorem order_tt (x y u v : Int) (h : Rt x y) (h' : Rt u v) (hxu : x ≤ u) (hyv : y ≤ v) (w : World) : Calls Try.prog 7 #[.agg #[.int .i64 x, .int .i64 y], .agg #[.int .i64 u, .int .i64 v]] w fun e w' => e = .returned (.bool true) ∧ Below w.heap.size w w' := by
  have HP : Hid (Rt x y) := h
  have HQ : Hid (Rt u v) := h'
  have HM : Hid (Rt x y) := by obtain ⟨_, _, _, _⟩ := h; obtain ⟨_, _, _, _⟩ := h'; show Rt _ _; unfold Rt; omega
  clear h h'
  go_enter Try.func7, Try.ntmps7
  go_wp2_with (first
    | (go_at_call 9; refine (anchor_any _).mono ?_; rintro e w1 ⟨rfl, b1⟩; have a1 : At2 w x y u v w1 := (At2.start w x y u v).next b1; have c0 := a1.p.c0; have c1 := a1.p.c1; have c2 := a1.q.c0; have c3 := a1.q.c1; clear b1)
    | (go_at_call 11; with_reducible refine (right_yes x y HP.out _).mono ?_; rintro e w2 ⟨rfl, b1⟩; have a2 : At2 w x y u v w2 := At2.next (by first | assumption | exact At2.drew (by assumption)) b1; have c20 := a2.p.c0; have c21 := a2.p.c1; have c22 := a2.q.c0; have c23 := a2.q.c1; clear b1)
    | (go_at_call 11; with_reducible refine (right_yes u v HQ.out _).mono ?_; rintro e w3 ⟨rfl, b1⟩; have a3 : At2 w x y u v w3 := At2.next (by first | assumption | exact At2.drew (by assumption)) b1; have c30 := a3.p.c0; have c31 := a3.p.c1; have c32 := a3.q.c0; have c33 := a3.q.c1; clear b1))
  go_region_with (first
    | (go_at_call 13; with_reducible refine (number_U x y HP.out.x HP.out.y _).mono ?_; rintro e w4 ⟨r, s, rfl, hr, hs, b1⟩; have a4 : At2 w x y u v w4 := At2.next (by first | assumption | exact At2.drew (by assumption)) b1; have c40 := a4.p.c0; have c41 := a4.p.c1; have c42 := a4.q.c0; have c43 := a4.q.c1; clear b1)
    | (go_at_call 13; with_reducible refine (number_U u v HQ.out.x HQ.out.y _).mono ?_; rintro e w5 ⟨r', s', rfl, hr', hs', b1⟩; have a5 : At2 w x y u v w5 := At2.next (by first | assumption | exact At2.drew (by assumption)) b1; have c50 := a5.p.c0; have c51 := a5.p.c1; have c52 := a5.q.c0; have c53 := a5.q.c1; clear b1))
  all_goals clear c0 c1 c2 c3 c20 c21 c22 c23 c30 c31 c32 c33 a1 a2 a3
  all_goals have t1 := Ta_of hr hs HP.out
  all_goals have t2 := Ta_of hr' hs' HQ.out
  all_goals have t3 : Hid (Rt y x) := ⟨HP.out.2.2.1, HP.out.2.2.2, HP.out.1, HP.out.2.1⟩
  all_goals have t4 : Hid (Rt v u) := ⟨HQ.out.2.2.1, HQ.out.2.2.2, HQ.out.1, HQ.out.2.1⟩
  all_goals have lr := hr.2
  all_goals have ls := hs.2
  all_goals have lr' := hr'.2
  all_goals have ls' := hs'.2
  all_goals have t5 := Ta_of hs hr t3.out
  all_goals have q1 := eq_t hr hr rfl
  all_goals have q2 := eq_t hs hs rfl
  all_goals go_wp2_with (first
    | (go_at_call 13; with_reducible refine (number_U _ _ HM.out.x HM.out.y _).mono ?_; rintro e w6 ⟨r2, s2, rfl, hr2, hs2, b1⟩; have a6 : At2 w x y u v w6 := At2.next (by first | assumption | exact At2.drew (by assumption)) b1; have c60 := a6.p.c0; have c61 := a6.p.c1; have c62 := a6.q.c0; have c63 := a6.q.c1; clear b1)
    | (go_at_call 18; with_reducible refine (Within_t r s r' s' x y u v hr hs hr' hs' HP.out HQ.out ⟨by omega, by omega⟩ _).mono ?_; rintro e w7 ⟨k, rfl, hw⟩; have a7 : At2 w x y u v w7 := At2.next (by first | assumption | exact At2.drew (by assumption)) (below_of hw); have c70 := a7.p.c0; have c71 := a7.p.c1; have c72 := a7.q.c0; have c73 := a7.q.c1; clear hw)
    | (go_at_call 19; with_reducible refine (Mirror_ok r s lr ls t1 _).mono ?_; rintro e w8 ⟨k, rfl, hw⟩; have a8 : At2 w x y u v w8 := At2.next (by first | assumption | exact At2.drew (by assumption)) (below_of hw); have c80 := a8.p.c0; have c81 := a8.p.c1; have c82 := a8.q.c0; have c83 := a8.q.c1; clear hw)
    | (go_at_call 19; with_reducible refine (Mirror_ok r' s' lr' ls' t2 _).mono ?_; rintro e w9 ⟨k, rfl, hw⟩; have a9 : At2 w x y u v w9 := At2.next (by first | assumption | exact At2.drew (by assumption)) (below_of hw); have c90 := a9.p.c0; have c91 := a9.p.c1; have c92 := a9.q.c0; have c93 := a9.q.c1; clear hw)
    | (go_at_call 19; with_reducible refine (Mirror_ok s r ls lr t5 _).mono ?_; rintro e w8 ⟨k, rfl, hw⟩; have a8 : At2 w x y u v w8 := At2.next (by first | assumption | exact At2.drew (by assumption)) (below_of hw); have c80 := a8.p.c0; have c81 := a8.p.c1; have c82 := a8.q.c0; have c83 := a8.q.c1; clear hw)
    | (go_at_call 18; with_reducible refine (Within_t s r s' r' y x v u hs hr hs' hr' t3.out t4.out ⟨by omega, by omega⟩ _).mono ?_; rintro e w10 ⟨k, rfl, hw⟩; have a10 : At2 w x y u v w10 := At2.next (by first | assumption | exact At2.drew (by assumption)) (below_of hw); have c100 := a10.p.c0; have c101 := a10.p.c1; have c102 := a10.q.c0; have c103 := a10.q.c1; clear hw)
    | (go_at_call 18; with_reducible refine (Within_t r2 s2 r s x y x y hr2 hs2 hr hs HM.out HP.out ⟨by omega, by omega⟩ _).mono ?_; rintro e w11 ⟨k, rfl, hw⟩; have a11 : At2 w x y u v w11 := At2.next (by first | assumption | exact At2.drew (by assumption)) (below_of hw); have c110 := a11.p.c0; have c111 := a11.p.c1; have c112 := a11.q.c0; have c113 := a11.q.c1; clear hw)
    | (go_at_call 18; with_reducible refine (Within_t r2 s2 r' s' x y u v hr2 hs2 hr' hs' HM.out HQ.out ⟨by omega, by omega⟩ _).mono ?_; rintro e w12 ⟨k, rfl, hw⟩; have a12 : At2 w x y u v w12 := At2.next (by first | assumption | exact At2.drew (by assumption)) (below_of hw); have c120 := a12.p.c0; have c121 := a12.p.c1; have c122 := a12.q.c0; have c123 := a12.q.c1; clear hw))
  all_goals first | (go_ret; exact ⟨rfl, At2.bel (by assumption)⟩)
set_option maxHeartbeats 8000000 in
theorem order_tf (x y u v : Int) (h : Rt x y) (h' : Rt u v) (hxu : x ≤ u) (hyv : ¬ y ≤ v) (w : World) : Calls Try.prog 7 #[.agg #[.int .i64 x, .int .i64 y], .agg #[.int .i64 u, .int .i64 v]] w fun e w' => e = .returned (.bool true) ∧ Below w.heap.size w w' := by
  have HP : Hid (Rt x y) := h
  have HQ : Hid (Rt u v) := h'
  have HM : Hid (Rt x v) := by obtain ⟨_, _, _, _⟩ := h; obtain ⟨_, _, _, _⟩ := h'; show Rt _ _; unfold Rt; omega
  have hdec : decide (y ≤ v) = false := decide_eq_false hyv
  clear h h'
  go_enter Try.func7, Try.ntmps7
  go_wp2_with (first
    | (go_at_call 9; refine (anchor_any _).mono ?_; rintro e w1 ⟨rfl, b1⟩; have a1 : At2 w x y u v w1 := (At2.start w x y u v).next b1; have c0 := a1.p.c0; have c1 := a1.p.c1; have c2 := a1.q.c0; have c3 := a1.q.c1; clear b1)
    | (go_at_call 11; with_reducible refine (right_yes x y HP.out _).mono ?_; rintro e w2 ⟨rfl, b1⟩; have a2 : At2 w x y u v w2 := At2.next (by first | assumption | exact At2.drew (by assumption)) b1; have c20 := a2.p.c0; have c21 := a2.p.c1; have c22 := a2.q.c0; have c23 := a2.q.c1; clear b1)
    | (go_at_call 11; with_reducible refine (right_yes u v HQ.out _).mono ?_; rintro e w3 ⟨rfl, b1⟩; have a3 : At2 w x y u v w3 := At2.next (by first | assumption | exact At2.drew (by assumption)) b1; have c30 := a3.p.c0; have c31 := a3.p.c1; have c32 := a3.q.c0; have c33 := a3.q.c1; clear b1))
  go_region_with (first
    | (go_at_call 13; with_reducible refine (number_U x y HP.out.x HP.out.y _).mono ?_; rintro e w4 ⟨r, s, rfl, hr, hs, b1⟩; have a4 : At2 w x y u v w4 := At2.next (by first | assumption | exact At2.drew (by assumption)) b1; have c40 := a4.p.c0; have c41 := a4.p.c1; have c42 := a4.q.c0; have c43 := a4.q.c1; clear b1)
    | (go_at_call 13; with_reducible refine (number_U u v HQ.out.x HQ.out.y _).mono ?_; rintro e w5 ⟨r', s', rfl, hr', hs', b1⟩; have a5 : At2 w x y u v w5 := At2.next (by first | assumption | exact At2.drew (by assumption)) b1; have c50 := a5.p.c0; have c51 := a5.p.c1; have c52 := a5.q.c0; have c53 := a5.q.c1; clear b1))
  all_goals clear c0 c1 c2 c3 c20 c21 c22 c23 c30 c31 c32 c33 a1 a2 a3
  all_goals have t1 := Ta_of hr hs HP.out
  all_goals have t2 := Ta_of hr' hs' HQ.out
  all_goals have t3 : Hid (Rt y x) := ⟨HP.out.2.2.1, HP.out.2.2.2, HP.out.1, HP.out.2.1⟩
  all_goals have t4 : Hid (Rt v u) := ⟨HQ.out.2.2.1, HQ.out.2.2.2, HQ.out.1, HQ.out.2.1⟩
  all_goals have lr := hr.2
  all_goals have ls := hs.2
  all_goals have lr' := hr'.2
  all_goals have ls' := hs'.2
  all_goals have t5 := Ta_of hs hr t3.out
  all_goals have q1 := eq_t hr hr rfl
  all_goals have q2 := eq_t hs hs rfl
  all_goals go_wp2_with (first
    | (go_at_call 13; with_reducible refine (number_U _ _ HM.out.x HM.out.y _).mono ?_; rintro e w6 ⟨r2, s2, rfl, hr2, hs2, b1⟩; have a6 : At2 w x y u v w6 := At2.next (by first | assumption | exact At2.drew (by assumption)) b1; have c60 := a6.p.c0; have c61 := a6.p.c1; have c62 := a6.q.c0; have c63 := a6.q.c1; clear b1)
    | (go_at_call 18; with_reducible refine (Within_f r s r' s' x y u v hr hs hr' hs' HP.out HQ.out (by omega) _).mono ?_; rintro e w7 ⟨k, rfl, hw⟩; have a7 : At2 w x y u v w7 := At2.next (by first | assumption | exact At2.drew (by assumption)) (below_of hw); have c70 := a7.p.c0; have c71 := a7.p.c1; have c72 := a7.q.c0; have c73 := a7.q.c1; clear hw)
    | (go_at_call 19; with_reducible refine (Mirror_ok r s lr ls t1 _).mono ?_; rintro e w8 ⟨k, rfl, hw⟩; have a8 : At2 w x y u v w8 := At2.next (by first | assumption | exact At2.drew (by assumption)) (below_of hw); have c80 := a8.p.c0; have c81 := a8.p.c1; have c82 := a8.q.c0; have c83 := a8.q.c1; clear hw)
    | (go_at_call 19; with_reducible refine (Mirror_ok r' s' lr' ls' t2 _).mono ?_; rintro e w9 ⟨k, rfl, hw⟩; have a9 : At2 w x y u v w9 := At2.next (by first | assumption | exact At2.drew (by assumption)) (below_of hw); have c90 := a9.p.c0; have c91 := a9.p.c1; have c92 := a9.q.c0; have c93 := a9.q.c1; clear hw)
    | (go_at_call 19; with_reducible refine (Mirror_ok s r ls lr t5 _).mono ?_; rintro e w8 ⟨k, rfl, hw⟩; have a8 : At2 w x y u v w8 := At2.next (by first | assumption | exact At2.drew (by assumption)) (below_of hw); have c80 := a8.p.c0; have c81 := a8.p.c1; have c82 := a8.q.c0; have c83 := a8.q.c1; clear hw)
    | (go_at_call 18; with_reducible refine (Within_f s r s' r' y x v u hs hr hs' hr' t3.out t4.out (by omega) _).mono ?_; rintro e w10 ⟨k, rfl, hw⟩; have a10 : At2 w x y u v w10 := At2.next (by first | assumption | exact At2.drew (by assumption)) (below_of hw); have c100 := a10.p.c0; have c101 := a10.p.c1; have c102 := a10.q.c0; have c103 := a10.q.c1; clear hw)
    | (go_at_call 18; with_reducible refine (Within_t r2 s2 r s x v x y hr2 hs2 hr hs HM.out HP.out ⟨by omega, by omega⟩ _).mono ?_; rintro e w11 ⟨k, rfl, hw⟩; have a11 : At2 w x y u v w11 := At2.next (by first | assumption | exact At2.drew (by assumption)) (below_of hw); have c110 := a11.p.c0; have c111 := a11.p.c1; have c112 := a11.q.c0; have c113 := a11.q.c1; clear hw)
    | (go_at_call 18; with_reducible refine (Within_t r2 s2 r' s' x v u v hr2 hs2 hr' hs' HM.out HQ.out ⟨by omega, by omega⟩ _).mono ?_; rintro e w12 ⟨k, rfl, hw⟩; have a12 : At2 w x y u v w12 := At2.next (by first | assumption | exact At2.drew (by assumption)) (below_of hw); have c120 := a12.p.c0; have c121 := a12.p.c1; have c122 := a12.q.c0; have c123 := a12.q.c1; clear hw))
  all_goals first | (go_ret; exact ⟨rfl, At2.bel (by assumption)⟩)
set_option maxHeartbeats 8000000 in
theorem order_ft (x y u v : Int) (h : Rt x y) (h' : Rt u v) (hxu : ¬ x ≤ u) (hyv : y ≤ v) (w : World) : Calls Try.prog 7 #[.agg #[.int .i64 x, .int .i64 y], .agg #[.int .i64 u, .int .i64 v]] w fun e w' => e = .returned (.bool true) ∧ Below w.heap.size w w' := by
  have HP : Hid (Rt x y) := h
  have HQ : Hid (Rt u v) := h'
  have HM : Hid (Rt u y) := by obtain ⟨_, _, _, _⟩ := h; obtain ⟨_, _, _, _⟩ := h'; show Rt _ _; unfold Rt; omega
  clear h h'
  go_enter Try.func7, Try.ntmps7
  go_wp2_with (first
    | (go_at_call 9; refine (anchor_any _).mono ?_; rintro e w1 ⟨rfl, b1⟩; have a1 : At2 w x y u v w1 := (At2.start w x y u v).next b1; have c0 := a1.p.c0; have c1 := a1.p.c1; have c2 := a1.q.c0; have c3 := a1.q.c1; clear b1)
    | (go_at_call 11; with_reducible refine (right_yes x y HP.out _).mono ?_; rintro e w2 ⟨rfl, b1⟩; have a2 : At2 w x y u v w2 := At2.next (by first | assumption | exact At2.drew (by assumption)) b1; have c20 := a2.p.c0; have c21 := a2.p.c1; have c22 := a2.q.c0; have c23 := a2.q.c1; clear b1)
    | (go_at_call 11; with_reducible refine (right_yes u v HQ.out _).mono ?_; rintro e w3 ⟨rfl, b1⟩; have a3 : At2 w x y u v w3 := At2.next (by first | assumption | exact At2.drew (by assumption)) b1; have c30 := a3.p.c0; have c31 := a3.p.c1; have c32 := a3.q.c0; have c33 := a3.q.c1; clear b1))
  go_region_with (first
    | (go_at_call 13; with_reducible refine (number_U x y HP.out.x HP.out.y _).mono ?_; rintro e w4 ⟨r, s, rfl, hr, hs, b1⟩; have a4 : At2 w x y u v w4 := At2.next (by first | assumption | exact At2.drew (by assumption)) b1; have c40 := a4.p.c0; have c41 := a4.p.c1; have c42 := a4.q.c0; have c43 := a4.q.c1; clear b1)
    | (go_at_call 13; with_reducible refine (number_U u v HQ.out.x HQ.out.y _).mono ?_; rintro e w5 ⟨r', s', rfl, hr', hs', b1⟩; have a5 : At2 w x y u v w5 := At2.next (by first | assumption | exact At2.drew (by assumption)) b1; have c50 := a5.p.c0; have c51 := a5.p.c1; have c52 := a5.q.c0; have c53 := a5.q.c1; clear b1))
  all_goals clear c0 c1 c2 c3 c20 c21 c22 c23 c30 c31 c32 c33 a1 a2 a3
  all_goals have t1 := Ta_of hr hs HP.out
  all_goals have t2 := Ta_of hr' hs' HQ.out
  all_goals have t3 : Hid (Rt y x) := ⟨HP.out.2.2.1, HP.out.2.2.2, HP.out.1, HP.out.2.1⟩
  all_goals have t4 : Hid (Rt v u) := ⟨HQ.out.2.2.1, HQ.out.2.2.2, HQ.out.1, HQ.out.2.1⟩
  all_goals have lr := hr.2
  all_goals have ls := hs.2
  all_goals have lr' := hr'.2
  all_goals have ls' := hs'.2
  all_goals have t5 := Ta_of hs hr t3.out
  all_goals have q1 := eq_t hr hr rfl
  all_goals have q2 := eq_t hs hs rfl
  all_goals go_wp2_with (first
    | (go_at_call 13; with_reducible refine (number_U _ _ HM.out.x HM.out.y _).mono ?_; rintro e w6 ⟨r2, s2, rfl, hr2, hs2, b1⟩; have a6 : At2 w x y u v w6 := At2.next (by first | assumption | exact At2.drew (by assumption)) b1; have c60 := a6.p.c0; have c61 := a6.p.c1; have c62 := a6.q.c0; have c63 := a6.q.c1; clear b1)
    | (go_at_call 18; with_reducible refine (Within_f r s r' s' x y u v hr hs hr' hs' HP.out HQ.out (by omega) _).mono ?_; rintro e w7 ⟨k, rfl, hw⟩; have a7 : At2 w x y u v w7 := At2.next (by first | assumption | exact At2.drew (by assumption)) (below_of hw); have c70 := a7.p.c0; have c71 := a7.p.c1; have c72 := a7.q.c0; have c73 := a7.q.c1; clear hw)
    | (go_at_call 19; with_reducible refine (Mirror_ok r s lr ls t1 _).mono ?_; rintro e w8 ⟨k, rfl, hw⟩; have a8 : At2 w x y u v w8 := At2.next (by first | assumption | exact At2.drew (by assumption)) (below_of hw); have c80 := a8.p.c0; have c81 := a8.p.c1; have c82 := a8.q.c0; have c83 := a8.q.c1; clear hw)
    | (go_at_call 19; with_reducible refine (Mirror_ok r' s' lr' ls' t2 _).mono ?_; rintro e w9 ⟨k, rfl, hw⟩; have a9 : At2 w x y u v w9 := At2.next (by first | assumption | exact At2.drew (by assumption)) (below_of hw); have c90 := a9.p.c0; have c91 := a9.p.c1; have c92 := a9.q.c0; have c93 := a9.q.c1; clear hw)
    | (go_at_call 19; with_reducible refine (Mirror_ok s r ls lr t5 _).mono ?_; rintro e w8 ⟨k, rfl, hw⟩; have a8 : At2 w x y u v w8 := At2.next (by first | assumption | exact At2.drew (by assumption)) (below_of hw); have c80 := a8.p.c0; have c81 := a8.p.c1; have c82 := a8.q.c0; have c83 := a8.q.c1; clear hw)
    | (go_at_call 18; with_reducible refine (Within_f s r s' r' y x v u hs hr hs' hr' t3.out t4.out (by omega) _).mono ?_; rintro e w10 ⟨k, rfl, hw⟩; have a10 : At2 w x y u v w10 := At2.next (by first | assumption | exact At2.drew (by assumption)) (below_of hw); have c100 := a10.p.c0; have c101 := a10.p.c1; have c102 := a10.q.c0; have c103 := a10.q.c1; clear hw)
    | (go_at_call 18; with_reducible refine (Within_t r2 s2 r s u y x y hr2 hs2 hr hs HM.out HP.out ⟨by omega, by omega⟩ _).mono ?_; rintro e w11 ⟨k, rfl, hw⟩; have a11 : At2 w x y u v w11 := At2.next (by first | assumption | exact At2.drew (by assumption)) (below_of hw); have c110 := a11.p.c0; have c111 := a11.p.c1; have c112 := a11.q.c0; have c113 := a11.q.c1; clear hw)
    | (go_at_call 18; with_reducible refine (Within_t r2 s2 r' s' u y u v hr2 hs2 hr' hs' HM.out HQ.out ⟨by omega, by omega⟩ _).mono ?_; rintro e w12 ⟨k, rfl, hw⟩; have a12 : At2 w x y u v w12 := At2.next (by first | assumption | exact At2.drew (by assumption)) (below_of hw); have c120 := a12.p.c0; have c121 := a12.p.c1; have c122 := a12.q.c0; have c123 := a12.q.c1; clear hw))
  all_goals first | (go_ret; exact ⟨rfl, At2.bel (by assumption)⟩)
set_option maxHeartbeats 8000000 in
theorem order_ff (x y u v : Int) (h : Rt x y) (h' : Rt u v) (hxu : ¬ x ≤ u) (hyv : ¬ y ≤ v) (w : World) : Calls Try.prog 7 #[.agg #[.int .i64 x, .int .i64 y], .agg #[.int .i64 u, .int .i64 v]] w fun e w' => e = .returned (.bool true) ∧ Below w.heap.size w w' := by
  have HP : Hid (Rt x y) := h
  have HQ : Hid (Rt u v) := h'
  have HM : Hid (Rt u v) := by obtain ⟨_, _, _, _⟩ := h; obtain ⟨_, _, _, _⟩ := h'; show Rt _ _; unfold Rt; omega
  clear h h'
  go_enter Try.func7, Try.ntmps7
  go_wp2_with (first
    | (go_at_call 9; refine (anchor_any _).mono ?_; rintro e w1 ⟨rfl, b1⟩; have a1 : At2 w x y u v w1 := (At2.start w x y u v).next b1; have c0 := a1.p.c0; have c1 := a1.p.c1; have c2 := a1.q.c0; have c3 := a1.q.c1; clear b1)
    | (go_at_call 11; with_reducible refine (right_yes x y HP.out _).mono ?_; rintro e w2 ⟨rfl, b1⟩; have a2 : At2 w x y u v w2 := At2.next (by first | assumption | exact At2.drew (by assumption)) b1; have c20 := a2.p.c0; have c21 := a2.p.c1; have c22 := a2.q.c0; have c23 := a2.q.c1; clear b1)
    | (go_at_call 11; with_reducible refine (right_yes u v HQ.out _).mono ?_; rintro e w3 ⟨rfl, b1⟩; have a3 : At2 w x y u v w3 := At2.next (by first | assumption | exact At2.drew (by assumption)) b1; have c30 := a3.p.c0; have c31 := a3.p.c1; have c32 := a3.q.c0; have c33 := a3.q.c1; clear b1))
  go_region_with (first
    | (go_at_call 13; with_reducible refine (number_U x y HP.out.x HP.out.y _).mono ?_; rintro e w4 ⟨r, s, rfl, hr, hs, b1⟩; have a4 : At2 w x y u v w4 := At2.next (by first | assumption | exact At2.drew (by assumption)) b1; have c40 := a4.p.c0; have c41 := a4.p.c1; have c42 := a4.q.c0; have c43 := a4.q.c1; clear b1)
    | (go_at_call 13; with_reducible refine (number_U u v HQ.out.x HQ.out.y _).mono ?_; rintro e w5 ⟨r', s', rfl, hr', hs', b1⟩; have a5 : At2 w x y u v w5 := At2.next (by first | assumption | exact At2.drew (by assumption)) b1; have c50 := a5.p.c0; have c51 := a5.p.c1; have c52 := a5.q.c0; have c53 := a5.q.c1; clear b1))
  all_goals clear c0 c1 c2 c3 c20 c21 c22 c23 c30 c31 c32 c33 a1 a2 a3
  all_goals have t1 := Ta_of hr hs HP.out
  all_goals have t2 := Ta_of hr' hs' HQ.out
  all_goals have t3 : Hid (Rt y x) := ⟨HP.out.2.2.1, HP.out.2.2.2, HP.out.1, HP.out.2.1⟩
  all_goals have t4 : Hid (Rt v u) := ⟨HQ.out.2.2.1, HQ.out.2.2.2, HQ.out.1, HQ.out.2.1⟩
  all_goals have lr := hr.2
  all_goals have ls := hs.2
  all_goals have lr' := hr'.2
  all_goals have ls' := hs'.2
  all_goals have t5 := Ta_of hs hr t3.out
  all_goals have q1 := eq_t hr hr rfl
  all_goals have q2 := eq_t hs hs rfl
  all_goals go_wp2_with (first
    | (go_at_call 13; with_reducible refine (number_U _ _ HM.out.x HM.out.y _).mono ?_; rintro e w6 ⟨r2, s2, rfl, hr2, hs2, b1⟩; have a6 : At2 w x y u v w6 := At2.next (by first | assumption | exact At2.drew (by assumption)) b1; have c60 := a6.p.c0; have c61 := a6.p.c1; have c62 := a6.q.c0; have c63 := a6.q.c1; clear b1)
    | (go_at_call 18; with_reducible refine (Within_f r s r' s' x y u v hr hs hr' hs' HP.out HQ.out (by omega) _).mono ?_; rintro e w7 ⟨k, rfl, hw⟩; have a7 : At2 w x y u v w7 := At2.next (by first | assumption | exact At2.drew (by assumption)) (below_of hw); have c70 := a7.p.c0; have c71 := a7.p.c1; have c72 := a7.q.c0; have c73 := a7.q.c1; clear hw)
    | (go_at_call 19; with_reducible refine (Mirror_ok r s lr ls t1 _).mono ?_; rintro e w8 ⟨k, rfl, hw⟩; have a8 : At2 w x y u v w8 := At2.next (by first | assumption | exact At2.drew (by assumption)) (below_of hw); have c80 := a8.p.c0; have c81 := a8.p.c1; have c82 := a8.q.c0; have c83 := a8.q.c1; clear hw)
    | (go_at_call 19; with_reducible refine (Mirror_ok r' s' lr' ls' t2 _).mono ?_; rintro e w9 ⟨k, rfl, hw⟩; have a9 : At2 w x y u v w9 := At2.next (by first | assumption | exact At2.drew (by assumption)) (below_of hw); have c90 := a9.p.c0; have c91 := a9.p.c1; have c92 := a9.q.c0; have c93 := a9.q.c1; clear hw)
    | (go_at_call 19; with_reducible refine (Mirror_ok s r ls lr t5 _).mono ?_; rintro e w8 ⟨k, rfl, hw⟩; have a8 : At2 w x y u v w8 := At2.next (by first | assumption | exact At2.drew (by assumption)) (below_of hw); have c80 := a8.p.c0; have c81 := a8.p.c1; have c82 := a8.q.c0; have c83 := a8.q.c1; clear hw)
    | (go_at_call 18; with_reducible refine (Within_f s r s' r' y x v u hs hr hs' hr' t3.out t4.out (by omega) _).mono ?_; rintro e w10 ⟨k, rfl, hw⟩; have a10 : At2 w x y u v w10 := At2.next (by first | assumption | exact At2.drew (by assumption)) (below_of hw); have c100 := a10.p.c0; have c101 := a10.p.c1; have c102 := a10.q.c0; have c103 := a10.q.c1; clear hw)
    | (go_at_call 18; with_reducible refine (Within_t r2 s2 r s u v x y hr2 hs2 hr hs HM.out HP.out ⟨by omega, by omega⟩ _).mono ?_; rintro e w11 ⟨k, rfl, hw⟩; have a11 : At2 w x y u v w11 := At2.next (by first | assumption | exact At2.drew (by assumption)) (below_of hw); have c110 := a11.p.c0; have c111 := a11.p.c1; have c112 := a11.q.c0; have c113 := a11.q.c1; clear hw)
    | (go_at_call 18; with_reducible refine (Within_t r2 s2 r' s' u v u v hr2 hs2 hr' hs' HM.out HQ.out ⟨by omega, by omega⟩ _).mono ?_; rintro e w12 ⟨k, rfl, hw⟩; have a12 : At2 w x y u v w12 := At2.next (by first | assumption | exact At2.drew (by assumption)) (below_of hw); have c120 := a12.p.c0; have c121 := a12.p.c1; have c122 := a12.q.c0; have c123 := a12.q.c1; clear hw))
  all_goals first | (go_ret; exact ⟨rfl, At2.bel (by assumption)⟩)
theorem order_ok (x y u v : Int) (h : Rt x y) (h' : Rt u v) (w : World) : Calls Try.prog 7 #[.agg #[.int .i64 x, .int .i64 y], .agg #[.int .i64 u, .int .i64 v]] w fun e w' => e = .returned (.bool true) ∧ Below w.heap.size w w' := by
  by_cases hxu : x ≤ u <;> by_cases hyv : y ≤ v
  · exact order_tt x y u v h h' hxu hyv w
  · exact order_tf x y u v h h' hxu hyv w
  · exact order_ft x y u v h h' hxu hyv w
  · exact order_ff x y u v h h' hxu hyv w
set_option maxHeartbeats 2000000 in
theorem order_early (x y u v : Int) (h : ¬ (Rt x y ∧ Rt u v)) (w : World) : Calls Try.prog 7 #[.agg #[.int .i64 x, .int .i64 y], .agg #[.int .i64 u, .int .i64 v]] w fun e w' => e = .returned (.bool true) ∧ Below w.heap.size w w' := by
  by_cases h1 : Rt x y
  · have HP : Hid (Rt x y) := h1
    have HQ : Hid (¬ Rt u v) := fun h2 => h ⟨h1, h2⟩
    clear h h1
    go_enter Try.func7, Try.ntmps7
    go_wp2_with (first
      | (go_at_call 9; refine (anchor_any _).mono ?_; rintro e w1 ⟨rfl, b1⟩; have a1 : At2 w x y u v w1 := (At2.start w x y u v).next b1; have c0 := a1.p.c0; have c1 := a1.p.c1; have c2 := a1.q.c0; have c3 := a1.q.c1; clear b1)
      | (go_at_call 11; with_reducible refine (right_yes x y HP.out _).mono ?_; rintro e w2 ⟨rfl, b1⟩; have a2 : At2 w x y u v w2 := At2.next (by first | assumption | exact At2.drew (by assumption)) b1; have c20 := a2.p.c0; have c21 := a2.p.c1; have c22 := a2.q.c0; have c23 := a2.q.c1; clear b1)
      | (go_at_call 11; with_reducible refine (right_no u v HQ.out _).mono ?_; rintro e w3 ⟨rfl, b1⟩; have a3 : At2 w x y u v w3 := At2.next (by first | assumption | exact At2.drew (by assumption)) b1; have c30 := a3.p.c0; have c31 := a3.p.c1; have c32 := a3.q.c0; have c33 := a3.q.c1; clear b1))
    go_ret
    exact ⟨rfl, a3.bel⟩
  · have HP : Hid (¬ Rt x y) := h1
    clear h h1
    go_enter Try.func7, Try.ntmps7
    go_wp2_with (first
      | (go_at_call 9; refine (anchor_any _).mono ?_; rintro e w1 ⟨rfl, b1⟩; have a1 : At2 w x y u v w1 := (At2.start w x y u v).next b1; have c0 := a1.p.c0; have c1 := a1.p.c1; have c2 := a1.q.c0; have c3 := a1.q.c1; clear b1)
      | (go_at_call 11; with_reducible refine (right_no x y HP.out _).mono ?_; rintro e w2 ⟨rfl, b1⟩; have a2 : At2 w x y u v w2 := At2.next (by first | assumption | exact At2.drew (by assumption)) b1; have c20 := a2.p.c0; have c21 := a2.p.c1; have c22 := a2.q.c0; have c23 := a2.q.c1; clear b1))
    go_ret
    exact ⟨rfl, a2.bel⟩
theorem order_any (x y u v : Int) (w : World) : Calls Try.prog 7 #[.agg #[.int .i64 x, .int .i64 y], .agg #[.int .i64 u, .int .i64 v]] w fun e w' => e = .returned (.bool true) ∧ Below w.heap.size w w' := by
  by_cases h : Rt x y ∧ Rt u v
  · exact order_ok x y u v h.1 h.2 w
  · exact order_early x y u v h w
end Go.Proofs.Ytbppipnnmmddaaa
