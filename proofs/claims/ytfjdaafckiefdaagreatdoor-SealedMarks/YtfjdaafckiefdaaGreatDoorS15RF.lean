/- The document's Front and Bytes of records. -/
import Derived.Test.YtfjdaafckiefdaaGreatDoorS15RR
import Derived.Test.YtfjdaafckiefdaaGreatDoorMgH
import Derived.Test.YtfjdaafckiefdaaGreatDoorS15Ap
import Derived.Test.YtfjdaafckiefdaaGreatDoorS15Am
import Derived.Deep.CutRange
namespace Go.Proofs.YtfjdaafckiefdaaGreatDoor.S15
open Go.RowKit C8 E9
theorem ne_be (k : Nat) : Cd.be 6 k ≠ [] := fun e => by have := congrArg List.length e; rw [Cd.be_length] at this; simp at this
theorem ne_be2 (k : Nat) (t : List Nat) : Cd.be 2 k ++ t ≠ [] := fun e => by have := congrArg List.length e; rw [List.length_append, Cd.be_length] at this; simp at this
theorem ld26r {b : Nat} {cs : Array Value} {t : TypeId} {fr : Nat × Nat} {w : World} (h : w.heap[b]? = some (.cells cs t fr) ∧ cs.size = 5) : (Instr.loadAt 26 (.pointer (some ⟨b, 0, none⟩))).run Tryz.prog w = .ok (.agg cs) w := by
  simp only [Instr.loadAt, Instr.sureAddr, Sem.run_bind, Sem.run_pure, Result.andThen_ok, run_loadVar_row (P := Tryz.prog) w b t 26 cs fr _ h.1 Tryz.underlying26 rfl (by rw [h.2]; kernel_rfl)]
theorem cell4 {w : World} {b : Nat} {a1 a2 a3 a4 v : Value} {t : TypeId} (h : w.heap[b]? = some (.cells #[a1, a2, a3, a4, v] t (0, 0))) : w.cell? ⟨b, 4, none⟩ = some v := by rw [cell_of_row _ _ _ _ _ _ h]; rfl
theorem cells5 {w : World} {b : Nat} {a1 a2 a3 a4 v : Value} {t : TypeId} (h : w.heap[b]? = some (.cells #[a1, a2, a3, a4, v] t (0, 0))) : w.cell? ⟨b, 0, none⟩ = some a1 ∧ w.cell? ⟨b, 1, none⟩ = some a2 ∧ w.cell? ⟨b, 2, none⟩ = some a3 ∧ w.cell? ⟨b, 3, none⟩ = some a4 ∧ w.heap[b]? = some (.cells #[a1, a2, a3, a4, v] t (0, 0)) := by
  refine ⟨?_, ?_, ?_, ?_, h⟩ <;> (rw [cell_of_row _ _ _ _ _ _ h]; rfl)
def rf1 (W : World) (k1 k2 : Nat) : Nat → Value → World → Prop
  | 0 => IsV (.pointer (some ⟨W.heap.size, 0, none⟩))
  | 1 => IsV (.int .i64 (k1 : Int))
  | 2 => fun _ _ => True
  | 3 => IsV (.pointer (some ⟨W.heap.size, 1, none⟩))
  | 4 => IsV (.int .i64 (k2 : Int))
  | 5 => fun _ _ => True
  | 6 => fun _ _ => True
  | 7 => fun _ _ => True
  | _ => fun _ _ => True
theorem rf1_kept (W : World) (k1 k2 : Nat) {N : Nat} : ∀ i v w w', rf1 W k1 k2 i v w → Below N w w' → rf1 W k1 k2 i v w'
  | 0, _, _, _, h, _ => h
  | 1, _, _, _, h, _ => h
  | 2, _, _, _, h, _ => h
  | 3, _, _, _, h, _ => h
  | 4, _, _, _, h, _ => h
  | 5, _, _, _, h, _ => h
  | 6, _, _, _, h, _ => h
  | 7, _, _, _, h, _ => h
  | _ + 8, _, _, _, _, _ => trivial
set_option maxHeartbeats 4000000 in
theorem rFront_any (k1 k2 k3 k4 : Nat) (q : Option Addr) (n c : Nat) (W : World) (b1 : k1 ≤ 1099511627776) (b2 : k2 ≤ 1099511627776) (b3 : k3 ≤ 1099511627776) (b4 : k4 ≤ 1099511627776) :
    Calls Tryz.prog 31 #[.agg #[.int .i64 (k1 : Int), .int .i64 (k2 : Int), .int .i64 (k3 : Int), .int .i64 (k4 : Int), .slice q n c]] W fun e w' => ∃ v, e = .returned v ∧ w'.ownsRow W.heap.size 5 1 v 24 (ints .u8 (Cd.be 6 k1 ++ Cd.be 6 k2 ++ Cd.be 6 k3 ++ Cd.be 6 k4)) ∧ Below W.heap.size W w' := by
  have N1 : Hid (∀ W, Calls Tryz.prog 73 #[.int .i64 (k1 : Int)] W fun e w' => ∃ v, e = .returned v ∧ w'.ownsRow W.heap.size 5 1 v 6 (ints .u8 (Cd.be 6 k1)) ∧ Below W.heap.size W w') := fun W => RefNum_any k1 W b1
  have N2 : Hid (∀ W, Calls Tryz.prog 73 #[.int .i64 (k2 : Int)] W fun e w' => ∃ v, e = .returned v ∧ w'.ownsRow W.heap.size 5 1 v 6 (ints .u8 (Cd.be 6 k2)) ∧ Below W.heap.size W w') := fun W => RefNum_any k2 W b2
  have N3 : Hid (∀ W, Calls Tryz.prog 73 #[.int .i64 (k3 : Int)] W fun e w' => ∃ v, e = .returned v ∧ w'.ownsRow W.heap.size 5 1 v 6 (ints .u8 (Cd.be 6 k3)) ∧ Below W.heap.size W w') := fun W => RefNum_any k3 W b3
  have N4 : Hid (∀ W, Calls Tryz.prog 73 #[.int .i64 (k4 : Int)] W fun e w' => ∃ v, e = .returned v ∧ w'.ownsRow W.heap.size 5 1 v 6 (ints .u8 (Cd.be 6 k4)) ∧ Below W.heap.size W w') := fun W => RefNum_any k4 W b4
  clear b1 b2 b3 b4
  go_enter Tryz.func31, Tryz.ntmps31
  go_upto_region 1 with fail
  have B1 := hid (S7.below_alloc' W (.cells #[.int .i64 (k1 : Int), .int .i64 (k2 : Int), .int .i64 (k3 : Int), .int .i64 (k4 : Int), .slice q n c] 26))
  have HM : Hid (∀ w, Below (W.alloc (.cells #[.int .i64 (k1 : Int), .int .i64 (k2 : Int), .int .i64 (k3 : Int), .int .i64 (k4 : Int), .slice q n c] 26)).heap.size (W.alloc (.cells #[.int .i64 (k1 : Int), .int .i64 (k2 : Int), .int .i64 (k3 : Int), .int .i64 (k4 : Int), .slice q n c] 26)) w → w.cell? ⟨W.heap.size, 0, none⟩ = some (.int .i64 (k1 : Int)) ∧ w.cell? ⟨W.heap.size, 1, none⟩ = some (.int .i64 (k2 : Int)) ∧ w.cell? ⟨W.heap.size, 2, none⟩ = some (.int .i64 (k3 : Int)) ∧ w.cell? ⟨W.heap.size, 3, none⟩ = some (.int .i64 (k4 : Int)) ∧ w.heap[W.heap.size]? = some (.cells #[.int .i64 (k1 : Int), .int .i64 (k2 : Int), .int .i64 (k3 : Int), .int .i64 (k4 : Int), .slice q n c] 26 (0, 0))) := fun w h => cells5 ((h.block W.heap.size (by simp)).trans (heap_alloc_new W (.cells #[.int .i64 (k1 : Int), .int .i64 (k2 : Int), .int .i64 (k3 : Int), .int .i64 (k4 : Int), .slice q n c] 26)))
  have HZ1 : Hid (W.heap.size ≤ (W.alloc (.cells #[.int .i64 (k1 : Int), .int .i64 (k2 : Int), .int .i64 (k3 : Int), .int .i64 (k4 : Int), .slice q n c] 26)).heap.size) := B1.out.size
  generalize W.alloc (.cells #[.int .i64 (k1 : Int), .int .i64 (k2 : Int), .int .i64 (k3 : Int), .int .i64 (k4 : Int), .slice q n c] 26) = W1 at *
  have KU : Upk [⟨2, some 6, 6, none, (fun v w => w.ownsRow W1.heap.size 5 1 v 6 (ints .u8 (Cd.be 6 k1)))⟩, ⟨5, some 6, 9, none, (fun v w => Src w v (Cd.be 6 k2))⟩, ⟨6, some 7, 10, none, (fun v w => w.ownsRow W1.heap.size 5 1 v 12 (ints .u8 (Cd.be 6 k1 ++ Cd.be 6 k2)))⟩, ⟨7, none, 3, some 6, (fun v w => w.ownsRow W1.heap.size 5 1 v 12 (ints .u8 (Cd.be 6 k1 ++ Cd.be 6 k2)))⟩] := (allu (fun v x y h hb => own_only h (Only.of_below hb []) (fun _ _ e => by simp at e)) (allu (fun v x y h hb => h.below hb) (allu (fun v x y h hb => own_only h (Only.of_below hb []) (fun _ _ e => by simp at e)) (allu (fun v x y h hb => own_only h (Only.of_below hb []) (fun _ _ e => by simp at e)) all0u))))
  have hd0 := S7.below_drewN 1 W1 W1.heap.size
  refine wp_region_sa (rf1 W k1 k2) (fun u u' => Below (W1.heap.size) u u') (Ap (W1.heap.size) [⟨2, some 6, 6, none, (fun v w => w.ownsRow W1.heap.size 5 1 v 6 (ints .u8 (Cd.be 6 k1)))⟩, ⟨5, some 6, 9, none, (fun v w => Src w v (Cd.be 6 k2))⟩, ⟨6, some 7, 10, none, (fun v w => w.ownsRow W1.heap.size 5 1 v 12 (ints .u8 (Cd.be 6 k1 ++ Cd.be 6 k2)))⟩, ⟨7, none, 3, some 6, (fun v w => w.ownsRow W1.heap.size 5 1 v 12 (ints .u8 (Cd.be 6 k1 ++ Cd.be 6 k2)))⟩]) (by kernel_rfl) hd0 (fun _ _ _ h k => h.trans k) (rf1_kept W k1 k2) (by kernel_rfl) (Ap.start (Nat.le_refl _)) ?_ ?_
  · intro i o a' w' f hi inv hS hfi hfw hpre
    have hlt : i < 8 := (Array.getElem?_eq_some_iff.1 hi).1
    obtain rfl|rfl|rfl|rfl|rfl|rfl|rfl|rfl : i = 0 ∨ i = 1 ∨ i = 2 ∨ i = 3 ∨ i = 4 ∨ i = 5 ∨ i = 6 ∨ i = 7 := by omega
    · obtain rfl := Option.some.inj hi
      have h0 : a'.tmps.getD 1 undef = (.pointer (some ⟨W.heap.size, 0, none⟩)) := by rw [inv.old 1 (notDst_spec (by kernel_rfl))]; rfl
      exact ap_value _ rfl rfl (fa_run 26 0 1 W.heap.size rfl h0 (fun w => by simp [go_sem])) (allu ⟨(by decide : (0 : Nat) ≠ 2), (by decide : (some 4 : Option Tmp) ≠ some 6)⟩ (allu ⟨(by decide : (0 : Nat) ≠ 5), (by decide : (some 4 : Option Tmp) ≠ some 9)⟩ (allu ⟨(by decide : (0 : Nat) ≠ 6), (by decide : (some 4 : Option Tmp) ≠ some 10)⟩ (allu ⟨(by decide : (0 : Nat) ≠ 7), (by decide : (some 4 : Option Tmp) ≠ some 3)⟩ all0u)))) hS rfl
    · obtain rfl := Option.some.inj hi
      have h0 : a'.tmps.getD 4 undef = (.pointer (some ⟨W.heap.size, 0, none⟩)) := pre_of hpre 0 4 (by kernel_rfl) (by kernel_rfl)
      exact ap_value _ rfl rfl (load_run 3 4 W.heap.size (0) _ rfl h0 (ld3 (HM.out w' inv.grow).1)) (allu ⟨(by decide : (1 : Nat) ≠ 2), (by decide : (some 5 : Option Tmp) ≠ some 6)⟩ (allu ⟨(by decide : (1 : Nat) ≠ 5), (by decide : (some 5 : Option Tmp) ≠ some 9)⟩ (allu ⟨(by decide : (1 : Nat) ≠ 6), (by decide : (some 5 : Option Tmp) ≠ some 10)⟩ (allu ⟨(by decide : (1 : Nat) ≠ 7), (by decide : (some 5 : Option Tmp) ≠ some 3)⟩ all0u)))) hS rfl
    · obtain rfl := Option.some.inj hi
      have h0 : a'.tmps.getD 5 undef = (.int .i64 (k1 : Int)) := pre_of hpre 1 5 (by kernel_rfl) (by kernel_rfl)
      refine ap_quiet KU 73 #[a'.tmps.getD 5 undef] rfl rfl (by kernel_rfl) 6 rfl (by rw [inv.size]; exact (by decide : 6 < 21)) (allu (.inl ⟨rfl, rfl, rfl⟩) (allu (.inr ⟨(by decide : (2 : Nat) ≠ 5), (by decide : (some 6 : Option Tmp) ≠ some 9)⟩) (allu (.inr ⟨(by decide : (2 : Nat) ≠ 6), (by decide : (some 6 : Option Tmp) ≠ some 10)⟩) (allu (.inr ⟨(by decide : (2 : Nat) ≠ 7), (by decide : (some 6 : Option Tmp) ≠ some 3)⟩) all0u)))) hS ?_
      rw [h0]
      exact (N1.out w').mono (by rintro x u ⟨v, rfl, h1, h2⟩; exact ⟨v, rfl, h2, trivial, (allu (fun _ => S7.own_older h1 hS.siz) (allu (fun h => absurd (show (2 : Nat) = 5 from h) (by decide)) (allu (fun h => absurd (show (2 : Nat) = 6 from h) (by decide)) (allu (fun h => absurd (show (2 : Nat) = 7 from h) (by decide)) all0u))))⟩)
    · obtain rfl := Option.some.inj hi
      have h0 : a'.tmps.getD 1 undef = (.pointer (some ⟨W.heap.size, 0, none⟩)) := by rw [inv.old 1 (notDst_spec (by kernel_rfl))]; rfl
      exact ap_value _ rfl rfl (fa_run 26 1 1 W.heap.size rfl h0 (fun w => by simp [go_sem])) (allu ⟨(by decide : (3 : Nat) ≠ 2), (by decide : (some 7 : Option Tmp) ≠ some 6)⟩ (allu ⟨(by decide : (3 : Nat) ≠ 5), (by decide : (some 7 : Option Tmp) ≠ some 9)⟩ (allu ⟨(by decide : (3 : Nat) ≠ 6), (by decide : (some 7 : Option Tmp) ≠ some 10)⟩ (allu ⟨(by decide : (3 : Nat) ≠ 7), (by decide : (some 7 : Option Tmp) ≠ some 3)⟩ all0u)))) hS rfl
    · obtain rfl := Option.some.inj hi
      have h0 : a'.tmps.getD 7 undef = (.pointer (some ⟨W.heap.size, 1, none⟩)) := pre_of hpre 3 7 (by kernel_rfl) (by kernel_rfl)
      exact ap_value _ rfl rfl (load_run 3 7 W.heap.size (1) _ rfl h0 (ld3 (HM.out w' inv.grow).2.1)) (allu ⟨(by decide : (4 : Nat) ≠ 2), (by decide : (some 8 : Option Tmp) ≠ some 6)⟩ (allu ⟨(by decide : (4 : Nat) ≠ 5), (by decide : (some 8 : Option Tmp) ≠ some 9)⟩ (allu ⟨(by decide : (4 : Nat) ≠ 6), (by decide : (some 8 : Option Tmp) ≠ some 10)⟩ (allu ⟨(by decide : (4 : Nat) ≠ 7), (by decide : (some 8 : Option Tmp) ≠ some 3)⟩ all0u)))) hS rfl
    · obtain rfl := Option.some.inj hi
      have h0 : a'.tmps.getD 8 undef = (.int .i64 (k2 : Int)) := pre_of hpre 4 8 (by kernel_rfl) (by kernel_rfl)
      refine ap_quiet KU 73 #[a'.tmps.getD 8 undef] rfl rfl (by kernel_rfl) 9 rfl (by rw [inv.size]; exact (by decide : 9 < 21)) (allu (.inr ⟨(by decide : (5 : Nat) ≠ 2), (by decide : (some 9 : Option Tmp) ≠ some 6)⟩) (allu (.inl ⟨rfl, rfl, rfl⟩) (allu (.inr ⟨(by decide : (5 : Nat) ≠ 6), (by decide : (some 9 : Option Tmp) ≠ some 10)⟩) (allu (.inr ⟨(by decide : (5 : Nat) ≠ 7), (by decide : (some 9 : Option Tmp) ≠ some 3)⟩) all0u)))) hS ?_
      rw [h0]
      exact (N2.out w').mono (by rintro x u ⟨v, rfl, h1, h2⟩; exact ⟨v, rfl, h2, trivial, (allu (fun h => absurd (show (5 : Nat) = 2 from h) (by decide)) (allu (fun _ => Src.own (Cd.be_lt 6 k2) h1) (allu (fun h => absurd (show (5 : Nat) = 6 from h) (by decide)) (allu (fun h => absurd (show (5 : Nat) = 7 from h) (by decide)) all0u))))⟩)
    · obtain rfl := Option.some.inj hi
      have hu := hS.use ⟨2, some 6, 6, none, (fun v w => w.ownsRow W1.heap.size 5 1 v 6 (ints .u8 (Cd.be 6 k1)))⟩ List.mem_cons_self (been_of hfw 2 (by kernel_rfl)) (fun k hk => by cases hk; exact hfi)
      have hx := hS.use ⟨5, some 6, 9, none, (fun v w => Src w v (Cd.be 6 k2))⟩ (List.mem_cons_of_mem _ List.mem_cons_self) (been_of hfw 5 (by kernel_rfl)) (fun k hk => by cases hk; exact hfi)
      refine ap_append (st := 6) (xt := 9) (d := 10) rfl rfl rfl _ _ 6 (Cd.be 6 k1) (Cd.be 6 k2) rfl rfl hu hx (by rw [Cd.be_length]; omega) (ne_be _) rfl (by rw [inv.size]; exact (by decide : 10 < 21)) hfi hS (fun v2 w2 h2 => ⟨(allu (.inl ⟨⟨6, rfl, .inl rfl⟩, (by decide : (2 : Nat) ≠ 6)⟩) (allu (.inl ⟨⟨6, rfl, .inl rfl⟩, (by decide : (5 : Nat) ≠ 6)⟩) (allu (.inr (.inl ⟨rfl, rfl, (by rw [Cd.be_length] at h2; exact h2), fun k hk => by cases hk⟩)) (allu (.inr (.inr ⟨rfl, (by decide : (7 : Nat) ≠ 6)⟩)) all0u)))), trivial⟩)
    · obtain rfl := Option.some.inj hi
      have hu := hS.use ⟨6, some 7, 10, none, (fun v w => w.ownsRow W1.heap.size 5 1 v 12 (ints .u8 (Cd.be 6 k1 ++ Cd.be 6 k2)))⟩ (List.mem_cons_of_mem _ (List.mem_cons_of_mem _ List.mem_cons_self)) (been_of hfw 6 (by kernel_rfl)) (fun k hk => by cases hk; exact hfi)
      exact ap_up (a'.tmps.getD 10 undef) rfl rfl rfl (Below.refl _ _) 3 rfl (by rw [inv.size]; exact (by decide : 3 < 21)) hfi (allu (.inl ⟨⟨6, rfl, .inr (been_of hfw 6 (by kernel_rfl))⟩, (by decide : (2 : Nat) ≠ 7)⟩) (allu (.inl ⟨⟨6, rfl, .inr (been_of hfw 6 (by kernel_rfl))⟩, (by decide : (5 : Nat) ≠ 7)⟩) (allu (.inl ⟨⟨7, rfl, .inl rfl⟩, (by decide : (6 : Nat) ≠ 7)⟩) (allu (.inr (.inl ⟨rfl, rfl, hu, fun k hk => by cases hk; exact been_of hfw 6 (by kernel_rfl)⟩)) all0u)))) hS trivial
  intro a' w3 f inv hS hall hd
  have hu3 := hS.use ⟨7, none, 3, some 6, (fun v w => w.ownsRow W1.heap.size 5 1 v 12 (ints .u8 (Cd.be 6 k1 ++ Cd.be 6 k2)))⟩ (List.mem_cons_of_mem _ (List.mem_cons_of_mem _ (List.mem_cons_of_mem _ List.mem_cons_self))) (hall 7 (by decide)) (fun k hk => by cases hk)
  have hgrow : Below (W1.heap.size) W1 w3 := inv.grow
  have hdf : a'.defers = [] := inv.defers
  have e := frame_of [3, 4, 5, 6, 7, 8, 9, 10] inv.size (fun t ht => inv.old t (dstsIn_spec (ts := [3, 4, 5, 6, 7, 8, 9, 10]) (by kernel_rfl) t ht))
  clear inv hd hall hS KU hd0
  obtain ⟨tmps, defers⟩ := a'
  obtain rfl : defers = [] := hdf
  replace e : tmps = List.foldl (fun G t => G.setIfInBounds t (tmps.getD t undef)) _ [3, 4, 5, 6, 7, 8, 9, 10] := e
  simp only [List.foldl_cons, List.foldl_nil] at e
  replace hu3 : ((fun v w => w.ownsRow W1.heap.size 5 1 v 12 (ints .u8 (Cd.be 6 k1 ++ Cd.be 6 k2)))) (tmps.getD 3 undef) w3 := hu3
  generalize tmps.getD 3 undef = x3 at *
  generalize tmps.getD 4 undef = x4 at *
  generalize tmps.getD 5 undef = x5 at *
  generalize tmps.getD 6 undef = x6 at *
  generalize tmps.getD 7 undef = x7 at *
  generalize tmps.getD 8 undef = x8 at *
  generalize tmps.getD 9 undef = x9 at *
  generalize tmps.getD 10 undef = x10 at *
  simp only [List.setIfInBounds_toArray, List.set_cons_succ, List.set_cons_zero] at e
  subst e
  have G3 : Hid (w3.ownsRow W1.heap.size 5 1 x3 12 (ints .u8 (Cd.be 6 k1 ++ Cd.be 6 k2)) ∧ Below W1.heap.size W1 w3) := ⟨hu3, hgrow⟩
  clear hu3 hgrow N1 N2
  obtain ⟨c0, c1, c2, c3, -⟩ := HM.out w3 G3.out.2
  obtain ⟨uq, uc, rfl⟩ := own_slice G3.out.1
  go_wp2_with fail
  refine (N3.out _).mono ?_
  rintro e w4 ⟨v4, rfl, h1, h2⟩
  have G4 : Hid (w4.ownsRow W1.heap.size 5 1 (.slice uq 12 uc) 12 (ints .u8 (Cd.be 6 k1 ++ Cd.be 6 k2)) ∧ Src w4 v4 (Cd.be 6 k3) ∧ Below W1.heap.size W1 w4) := ⟨own_only G3.out.1 (Only.of_below h2 []) (fun _ _ e => by simp at e), Src.own (Cd.be_lt 6 k3) h1, G3.out.2.trans (h2.mono G3.out.2.size)⟩
  clear h1 h2 G3 c0 c1 c2 c3 N3
  obtain ⟨vq4, vc4, hv4, -⟩ := G4.out.2.1.slice
  subst hv4
  obtain ⟨m4, HM4⟩ : ∃ m, Hid ((Cd.be 6 k3).length = m) := ⟨_, rfl⟩
  rw [HM4.out]
  go_wp2_with (first | with_reducible (refine stop_builtin .append ?_))
  refine Stop.go ?_
  refine law_append_src W1.heap.size (.slice uq 12 uc) 12 (Cd.be 6 k1 ++ Cd.be 6 k2) _ (Cd.be 6 k3) rfl rfl G4.out.1 (by rw [← HM4.out]; exact G4.out.2.1) (by rw [Cd.be_length]; decide) G4.out.2.2.size ?_
  intro v5 w5 h1 h2
  have G5 : Hid (w5.ownsRow W1.heap.size 5 1 v5 18 (ints .u8 (Cd.be 6 k1 ++ Cd.be 6 k2 ++ Cd.be 6 k3)) ∧ Below W1.heap.size W1 w5) := ⟨by rw [Cd.be_length] at h1; exact h1, G4.out.2.2.trans (below_append G4.out.1 h2 G4.out.2.2.size)⟩
  clear h1 h2 G4 HM4
  obtain ⟨c0, c1, c2, c3, -⟩ := HM.out w5 G5.out.2
  obtain ⟨uq5, uc5, rfl⟩ := own_slice G5.out.1
  go_wp2_with fail
  refine (N4.out _).mono ?_
  rintro e w6 ⟨v6, rfl, h1, h2⟩
  have G6 : Hid (w6.ownsRow W1.heap.size 5 1 (.slice uq5 18 uc5) 18 (ints .u8 (Cd.be 6 k1 ++ Cd.be 6 k2 ++ Cd.be 6 k3)) ∧ Src w6 v6 (Cd.be 6 k4) ∧ Below W1.heap.size W1 w6) := ⟨own_only G5.out.1 (Only.of_below h2 []) (fun _ _ e => by simp at e), Src.own (Cd.be_lt 6 k4) h1, G5.out.2.trans (h2.mono G5.out.2.size)⟩
  clear h1 h2 G5 c0 c1 c2 c3 N4
  obtain ⟨vq6, vc6, hv6, -⟩ := G6.out.2.1.slice
  subst hv6
  obtain ⟨m6, HM6⟩ : ∃ m, Hid ((Cd.be 6 k4).length = m) := ⟨_, rfl⟩
  rw [HM6.out]
  go_wp2_with (first | with_reducible (refine stop_builtin .append ?_))
  refine Stop.go ?_
  refine law_append_src W1.heap.size (.slice uq5 18 uc5) 18 (Cd.be 6 k1 ++ Cd.be 6 k2 ++ Cd.be 6 k3) _ (Cd.be 6 k4) rfl rfl G6.out.1 (by rw [← HM6.out]; exact G6.out.2.1) (by rw [Cd.be_length]; decide) G6.out.2.2.size ?_
  intro v7 w7 h1 h2
  have G7 : Hid (w7.ownsRow W.heap.size 5 1 v7 24 (ints .u8 (Cd.be 6 k1 ++ Cd.be 6 k2 ++ Cd.be 6 k3 ++ Cd.be 6 k4)) ∧ Below W.heap.size W w7) := ⟨S7.own_older (by rw [Cd.be_length] at h1; exact h1) HZ1.out, B1.out.trans ((G6.out.2.2.trans (below_append G6.out.1 h2 G6.out.2.2.size)).mono HZ1.out)⟩
  clear h1 h2 G6 HM6
  go_wp2_with fail
  go_ret
  exact ⟨_, rfl, G7.out⟩
def rb1 (W : World) (k1 k2 k3 k4 : Nat) (q : Option Addr) (n c : Nat) : Nat → Value → World → Prop
  | 0 => IsV (.agg #[.int .i64 (k1 : Int), .int .i64 (k2 : Int), .int .i64 (k3 : Int), .int .i64 (k4 : Int), .slice q n c])
  | 1 => fun _ _ => True
  | 2 => IsV (.pointer (some ⟨W.heap.size, 4, none⟩))
  | 3 => IsV (.slice q n c)
  | 4 => fun _ _ => True
  | 5 => fun _ _ => True
  | 6 => fun _ _ => True
  | _ => fun _ _ => True
theorem rb1_kept (W : World) (k1 k2 k3 k4 : Nat) (q : Option Addr) (n c : Nat) {N : Nat} : ∀ i v w w', rb1 W k1 k2 k3 k4 q n c i v w → Below N w w' → rb1 W k1 k2 k3 k4 q n c i v w'
  | 0, _, _, _, h, _ => h
  | 1, _, _, _, h, _ => h
  | 2, _, _, _, h, _ => h
  | 3, _, _, _, h, _ => h
  | 4, _, _, _, h, _ => h
  | 5, _, _, _, h, _ => h
  | 6, _, _, _, h, _ => h
  | _ + 7, _, _, _, _, _ => trivial
set_option maxHeartbeats 4000000 in
theorem rBytesR_any (r : Rec) (q : Option Addr) (c : Nat) (W : World) (hr : rright r = true) (hs : Src W (.slice q r.box.length c) r.box) :
    Calls Tryz.prog 14 #[.agg (RecV r q c)] W fun e w' => ∃ v, e = .returned v ∧ w'.ownsRow W.heap.size 5 1 v (rbytes r).length (ints .u8 (rbytes r)) ∧ Below W.heap.size W w' := by
  obtain ⟨h0, h5⟩ := (rright_iff r).1 hr
  obtain ⟨h1, h2, h3, h4⟩ := (rnum_iff r).1 h0
  obtain ⟨r1, r2, r3, r4, t⟩ := r
  simp only at h1 h2 h3 h4 h5 hs
  obtain ⟨k1, rfl⟩ : ∃ k : Nat, r1 = (k : Int) := ⟨r1.toNat, (Int.toNat_of_nonneg (by omega)).symm⟩
  obtain ⟨k2, rfl⟩ : ∃ k : Nat, r2 = (k : Int) := ⟨r2.toNat, (Int.toNat_of_nonneg (by omega)).symm⟩
  obtain ⟨k3, rfl⟩ : ∃ k : Nat, r3 = (k : Int) := ⟨r3.toNat, (Int.toNat_of_nonneg (by omega)).symm⟩
  obtain ⟨k4, rfl⟩ : ∃ k : Nat, r4 = (k : Int) := ⟨r4.toNat, (Int.toNat_of_nonneg (by omega)).symm⟩
  have HE : Hid (rbytes ⟨(k1 : Int), (k2 : Int), (k3 : Int), (k4 : Int), t⟩ = Cd.be 6 k1 ++ Cd.be 6 k2 ++ Cd.be 6 k3 ++ Cd.be 6 k4 ++ (Cd.be 2 t.length ++ t)) := by
    show rbytes _ = _
    rw [rbytes_eq]
    unfold rfront fpts
    simp only [Cd.enc, one_num, one_txt, List.append_assoc, List.append_nil, Int.toNat_natCast]
  have HLN : Hid ((rbytes ⟨(k1 : Int), (k2 : Int), (k3 : Int), (k4 : Int), t⟩).length = 24 + (2 + t.length)) := by
    show _ = _
    rw [rbytes_length]
    show 26 + t.length = _
    omega
  rw [HLN.out, HE.out]
  clear HE HLN
  have HF : Hid (∀ W, Calls Tryz.prog 31 #[.agg #[.int .i64 (k1 : Int), .int .i64 (k2 : Int), .int .i64 (k3 : Int), .int .i64 (k4 : Int), .slice q t.length c]] W fun e w' => ∃ v, e = .returned v ∧ w'.ownsRow W.heap.size 5 1 v 24 (ints .u8 (Cd.be 6 k1 ++ Cd.be 6 k2 ++ Cd.be 6 k3 ++ Cd.be 6 k4)) ∧ Below W.heap.size W w') := fun W => rFront_any k1 k2 k3 k4 q t.length c W (by omega) (by omega) (by omega) (by omega)
  show Calls Tryz.prog _ #[.agg #[.int .i64 (k1 : Int), .int .i64 (k2 : Int), .int .i64 (k3 : Int), .int .i64 (k4 : Int), .slice q t.length c]] W _
  obtain ⟨F, HFE⟩ : ∃ F, Hid (Cd.be 6 k1 ++ Cd.be 6 k2 ++ Cd.be 6 k3 ++ Cd.be 6 k4 = F) := ⟨_, rfl⟩
  rw [HFE.out] at HF ⊢
  have HTN : Hid (t.length ≤ 2064) := h5.2
  have HTL : Hid (∀ x ∈ Cd.be 2 t.length ++ t, x < 256) := fun x hx => by
    rcases List.mem_append.1 hx with h | h
    · exact Cd.be_lt 2 _ x h
    · exact hs.small x h
  have HS := hid hs
  obtain ⟨n, HTL2⟩ : ∃ n, Hid (t.length = n) := ⟨_, rfl⟩
  have HLX : Hid ((Cd.be 2 t.length ++ t).length = 2 + n) := by show _ = _; rw [List.length_append, Cd.be_length, HTL2.out]
  have HT0 : Hid (∀ w, Below W.heap.size W w → Calls Tryz.prog 38 #[.slice q n c] w fun e w' => ∃ v, e = .returned v ∧ w'.ownsRow w.heap.size 5 1 v (2 + n) (ints .u8 (Cd.be 2 t.length ++ t)) ∧ Below w.heap.size w w') := fun w h => by
    have := RefText_any _ t w (HS.out.below h) (by have := HTN.out; omega)
    rw [HTL2.out] at this
    rw [HTL2.out]
    exact this
  rw [HTL2.out] at HF
  clear h0 h1 h2 h3 h4 h5 hs hr HFE HS
  suffices hh : Calls Tryz.prog 14 #[.agg #[.int .i64 (k1 : Int), .int .i64 (k2 : Int), .int .i64 (k3 : Int), .int .i64 (k4 : Int), .slice q n c]] W fun e w' => ∃ v, e = .returned v ∧ w'.ownsRow W.heap.size 5 1 v (24 + (2 + n)) (ints .u8 (F ++ (Cd.be 2 t.length ++ t))) ∧ Below W.heap.size W w' by
    rw [HTL2.out] at hh ⊢
    exact hh
  go_enter Tryz.func14, Tryz.ntmps14
  go_upto_region 1 with fail
  have B1 := hid (S7.below_alloc' W (.cells #[.int .i64 (k1 : Int), .int .i64 (k2 : Int), .int .i64 (k3 : Int), .int .i64 (k4 : Int), .slice q n c] 26))
  have HM : Hid (∀ w, Below (W.alloc (.cells #[.int .i64 (k1 : Int), .int .i64 (k2 : Int), .int .i64 (k3 : Int), .int .i64 (k4 : Int), .slice q n c] 26)).heap.size (W.alloc (.cells #[.int .i64 (k1 : Int), .int .i64 (k2 : Int), .int .i64 (k3 : Int), .int .i64 (k4 : Int), .slice q n c] 26)) w → w.cell? ⟨W.heap.size, 0, none⟩ = some (.int .i64 (k1 : Int)) ∧ w.cell? ⟨W.heap.size, 1, none⟩ = some (.int .i64 (k2 : Int)) ∧ w.cell? ⟨W.heap.size, 2, none⟩ = some (.int .i64 (k3 : Int)) ∧ w.cell? ⟨W.heap.size, 3, none⟩ = some (.int .i64 (k4 : Int)) ∧ w.heap[W.heap.size]? = some (.cells #[.int .i64 (k1 : Int), .int .i64 (k2 : Int), .int .i64 (k3 : Int), .int .i64 (k4 : Int), .slice q n c] 26 (0, 0))) := fun w h => cells5 ((h.block W.heap.size (by simp)).trans (heap_alloc_new W (.cells #[.int .i64 (k1 : Int), .int .i64 (k2 : Int), .int .i64 (k3 : Int), .int .i64 (k4 : Int), .slice q n c] 26)))
  have HZ1 : Hid (W.heap.size ≤ (W.alloc (.cells #[.int .i64 (k1 : Int), .int .i64 (k2 : Int), .int .i64 (k3 : Int), .int .i64 (k4 : Int), .slice q n c] 26)).heap.size) := B1.out.size
  generalize W.alloc (.cells #[.int .i64 (k1 : Int), .int .i64 (k2 : Int), .int .i64 (k3 : Int), .int .i64 (k4 : Int), .slice q n c] 26) = W1 at *
  have HT : Hid (∀ w, Below W1.heap.size W1 w → Calls Tryz.prog 38 #[.slice q n c] w fun e w' => ∃ v, e = .returned v ∧ w'.ownsRow w.heap.size 5 1 v (2 + n) (ints .u8 (Cd.be 2 t.length ++ t)) ∧ Below w.heap.size w w') := fun w h => HT0.out w (B1.out.trans (h.mono HZ1.out))
  have KU : Upk [⟨1, some 5, 4, none, (fun v w => w.ownsRow W1.heap.size 5 1 v 24 (ints .u8 (F)))⟩, ⟨4, some 5, 7, none, (fun v w => Src w v (Cd.be 2 t.length ++ t))⟩, ⟨5, some 6, 8, none, (fun v w => w.ownsRow W1.heap.size 5 1 v (24 + (2 + n)) (ints .u8 (F ++ (Cd.be 2 t.length ++ t))))⟩, ⟨6, none, 2, some 5, (fun v w => w.ownsRow W1.heap.size 5 1 v (24 + (2 + n)) (ints .u8 (F ++ (Cd.be 2 t.length ++ t))))⟩] := (allu (fun v x y h hb => own_only h (Only.of_below hb []) (fun _ _ e => by simp at e)) (allu (fun v x y h hb => h.below hb) (allu (fun v x y h hb => own_only h (Only.of_below hb []) (fun _ _ e => by simp at e)) (allu (fun v x y h hb => own_only h (Only.of_below hb []) (fun _ _ e => by simp at e)) all0u))))
  have hd0 := S7.below_drewN 1 W1 W1.heap.size
  refine wp_region_sa (rb1 W k1 k2 k3 k4 q n c) (fun u u' => Below (W1.heap.size) u u') (Ap (W1.heap.size) [⟨1, some 5, 4, none, (fun v w => w.ownsRow W1.heap.size 5 1 v 24 (ints .u8 (F)))⟩, ⟨4, some 5, 7, none, (fun v w => Src w v (Cd.be 2 t.length ++ t))⟩, ⟨5, some 6, 8, none, (fun v w => w.ownsRow W1.heap.size 5 1 v (24 + (2 + n)) (ints .u8 (F ++ (Cd.be 2 t.length ++ t))))⟩, ⟨6, none, 2, some 5, (fun v w => w.ownsRow W1.heap.size 5 1 v (24 + (2 + n)) (ints .u8 (F ++ (Cd.be 2 t.length ++ t))))⟩]) (by kernel_rfl) hd0 (fun _ _ _ h k => h.trans k) (rb1_kept W k1 k2 k3 k4 q n c) (by kernel_rfl) (Ap.start (Nat.le_refl _)) ?_ ?_
  · intro i o a' w' f hi inv hS hfi hfw hpre
    have hlt : i < 7 := (Array.getElem?_eq_some_iff.1 hi).1
    obtain rfl|rfl|rfl|rfl|rfl|rfl|rfl : i = 0 ∨ i = 1 ∨ i = 2 ∨ i = 3 ∨ i = 4 ∨ i = 5 ∨ i = 6 := by omega
    · obtain rfl := Option.some.inj hi
      have h0 : a'.tmps.getD 1 undef = (.pointer (some ⟨W.heap.size, 0, none⟩)) := by rw [inv.old 1 (notDst_spec (by kernel_rfl))]; rfl
      exact ap_value _ rfl rfl (load_run 26 1 W.heap.size (0) _ rfl h0 (ld26r ⟨(HM.out w' inv.grow).2.2.2.2, rfl⟩)) (allu ⟨(by decide : (0 : Nat) ≠ 1), (by decide : (some 3 : Option Tmp) ≠ some 4)⟩ (allu ⟨(by decide : (0 : Nat) ≠ 4), (by decide : (some 3 : Option Tmp) ≠ some 7)⟩ (allu ⟨(by decide : (0 : Nat) ≠ 5), (by decide : (some 3 : Option Tmp) ≠ some 8)⟩ (allu ⟨(by decide : (0 : Nat) ≠ 6), (by decide : (some 3 : Option Tmp) ≠ some 2)⟩ all0u)))) hS rfl
    · obtain rfl := Option.some.inj hi
      have h0 : a'.tmps.getD 3 undef = (.agg #[.int .i64 (k1 : Int), .int .i64 (k2 : Int), .int .i64 (k3 : Int), .int .i64 (k4 : Int), .slice q n c]) := pre_of hpre 0 3 (by kernel_rfl) (by kernel_rfl)
      refine ap_quiet KU 31 #[a'.tmps.getD 3 undef] rfl rfl (by kernel_rfl) 4 rfl (by rw [inv.size]; exact (by decide : 4 < 9)) (allu (.inl ⟨rfl, rfl, rfl⟩) (allu (.inr ⟨(by decide : (1 : Nat) ≠ 4), (by decide : (some 4 : Option Tmp) ≠ some 7)⟩) (allu (.inr ⟨(by decide : (1 : Nat) ≠ 5), (by decide : (some 4 : Option Tmp) ≠ some 8)⟩) (allu (.inr ⟨(by decide : (1 : Nat) ≠ 6), (by decide : (some 4 : Option Tmp) ≠ some 2)⟩) all0u)))) hS ?_
      rw [h0]
      exact (HF.out w').mono (by rintro x u ⟨v, rfl, h1, h2⟩; exact ⟨v, rfl, h2, trivial, (allu (fun _ => S7.own_older h1 hS.siz) (allu (fun h => absurd (show (1 : Nat) = 4 from h) (by decide)) (allu (fun h => absurd (show (1 : Nat) = 5 from h) (by decide)) (allu (fun h => absurd (show (1 : Nat) = 6 from h) (by decide)) all0u))))⟩)
    · obtain rfl := Option.some.inj hi
      have h0 : a'.tmps.getD 1 undef = (.pointer (some ⟨W.heap.size, 0, none⟩)) := by rw [inv.old 1 (notDst_spec (by kernel_rfl))]; rfl
      exact ap_value _ rfl rfl (fa_run 26 4 1 W.heap.size rfl h0 (fun w => by simp [go_sem])) (allu ⟨(by decide : (2 : Nat) ≠ 1), (by decide : (some 5 : Option Tmp) ≠ some 4)⟩ (allu ⟨(by decide : (2 : Nat) ≠ 4), (by decide : (some 5 : Option Tmp) ≠ some 7)⟩ (allu ⟨(by decide : (2 : Nat) ≠ 5), (by decide : (some 5 : Option Tmp) ≠ some 8)⟩ (allu ⟨(by decide : (2 : Nat) ≠ 6), (by decide : (some 5 : Option Tmp) ≠ some 2)⟩ all0u)))) hS rfl
    · obtain rfl := Option.some.inj hi
      have h0 : a'.tmps.getD 5 undef = (.pointer (some ⟨W.heap.size, 4, none⟩)) := pre_of hpre 2 5 (by kernel_rfl) (by kernel_rfl)
      exact ap_value _ rfl rfl (load_run 22 5 W.heap.size (4) _ rfl h0 (ld22 (cell4 (HM.out w' inv.grow).2.2.2.2))) (allu ⟨(by decide : (3 : Nat) ≠ 1), (by decide : (some 6 : Option Tmp) ≠ some 4)⟩ (allu ⟨(by decide : (3 : Nat) ≠ 4), (by decide : (some 6 : Option Tmp) ≠ some 7)⟩ (allu ⟨(by decide : (3 : Nat) ≠ 5), (by decide : (some 6 : Option Tmp) ≠ some 8)⟩ (allu ⟨(by decide : (3 : Nat) ≠ 6), (by decide : (some 6 : Option Tmp) ≠ some 2)⟩ all0u)))) hS rfl
    · obtain rfl := Option.some.inj hi
      have h0 : a'.tmps.getD 6 undef = (.slice q n c) := pre_of hpre 3 6 (by kernel_rfl) (by kernel_rfl)
      refine ap_quiet KU 38 #[a'.tmps.getD 6 undef] rfl rfl (by kernel_rfl) 7 rfl (by rw [inv.size]; exact (by decide : 7 < 9)) (allu (.inr ⟨(by decide : (4 : Nat) ≠ 1), (by decide : (some 7 : Option Tmp) ≠ some 4)⟩) (allu (.inl ⟨rfl, rfl, rfl⟩) (allu (.inr ⟨(by decide : (4 : Nat) ≠ 5), (by decide : (some 7 : Option Tmp) ≠ some 8)⟩) (allu (.inr ⟨(by decide : (4 : Nat) ≠ 6), (by decide : (some 7 : Option Tmp) ≠ some 2)⟩) all0u)))) hS ?_
      rw [h0]
      exact (HT.out w' inv.grow).mono (by rintro x u ⟨v, rfl, h1, h2⟩; exact ⟨v, rfl, h2, trivial, (allu (fun h => absurd (show (4 : Nat) = 1 from h) (by decide)) (allu (fun _ => Src.own HTL.out h1) (allu (fun h => absurd (show (4 : Nat) = 5 from h) (by decide)) (allu (fun h => absurd (show (4 : Nat) = 6 from h) (by decide)) all0u))))⟩)
    · obtain rfl := Option.some.inj hi
      have hu := hS.use ⟨1, some 5, 4, none, (fun v w => w.ownsRow W1.heap.size 5 1 v 24 (ints .u8 (F)))⟩ List.mem_cons_self (been_of hfw 1 (by kernel_rfl)) (fun k hk => by cases hk; exact hfi)
      have hx := hS.use ⟨4, some 5, 7, none, (fun v w => Src w v (Cd.be 2 t.length ++ t))⟩ (List.mem_cons_of_mem _ List.mem_cons_self) (been_of hfw 4 (by kernel_rfl)) (fun k hk => by cases hk; exact hfi)
      refine ap_append (st := 4) (xt := 7) (d := 8) rfl rfl rfl _ _ 24 F (Cd.be 2 t.length ++ t) rfl rfl hu hx (by rw [List.length_append, Cd.be_length]; have := HTN.out; omega) (ne_be2 _ _) rfl (by rw [inv.size]; exact (by decide : 8 < 9)) hfi hS (fun v2 w2 h2 => ⟨(allu (.inl ⟨⟨5, rfl, .inl rfl⟩, (by decide : (1 : Nat) ≠ 5)⟩) (allu (.inl ⟨⟨5, rfl, .inl rfl⟩, (by decide : (4 : Nat) ≠ 5)⟩) (allu (.inr (.inl ⟨rfl, rfl, (by rw [HLX.out] at h2; exact h2), fun k hk => by cases hk⟩)) (allu (.inr (.inr ⟨rfl, (by decide : (6 : Nat) ≠ 5)⟩)) all0u)))), trivial⟩)
    · obtain rfl := Option.some.inj hi
      have hu := hS.use ⟨5, some 6, 8, none, (fun v w => w.ownsRow W1.heap.size 5 1 v (24 + (2 + n)) (ints .u8 (F ++ (Cd.be 2 t.length ++ t))))⟩ (List.mem_cons_of_mem _ (List.mem_cons_of_mem _ List.mem_cons_self)) (been_of hfw 5 (by kernel_rfl)) (fun k hk => by cases hk; exact hfi)
      exact ap_up (a'.tmps.getD 8 undef) rfl rfl rfl (Below.refl _ _) 2 rfl (by rw [inv.size]; exact (by decide : 2 < 9)) hfi (allu (.inl ⟨⟨5, rfl, .inr (been_of hfw 5 (by kernel_rfl))⟩, (by decide : (1 : Nat) ≠ 6)⟩) (allu (.inl ⟨⟨5, rfl, .inr (been_of hfw 5 (by kernel_rfl))⟩, (by decide : (4 : Nat) ≠ 6)⟩) (allu (.inl ⟨⟨6, rfl, .inl rfl⟩, (by decide : (5 : Nat) ≠ 6)⟩) (allu (.inr (.inl ⟨rfl, rfl, hu, fun k hk => by cases hk; exact been_of hfw 5 (by kernel_rfl)⟩)) all0u)))) hS trivial
  intro a' w3 f inv hS hall hd
  have hu2 := hS.use ⟨6, none, 2, some 5, (fun v w => w.ownsRow W1.heap.size 5 1 v (24 + (2 + n)) (ints .u8 (F ++ (Cd.be 2 t.length ++ t))))⟩ (List.mem_cons_of_mem _ (List.mem_cons_of_mem _ (List.mem_cons_of_mem _ List.mem_cons_self))) (hall 6 (by decide)) (fun k hk => by cases hk)
  have hgrow : Below (W1.heap.size) W1 w3 := inv.grow
  have hdf : a'.defers = [] := inv.defers
  have e := frame_of [2, 3, 4, 5, 6, 7, 8] inv.size (fun t ht => inv.old t (dstsIn_spec (ts := [2, 3, 4, 5, 6, 7, 8]) (by kernel_rfl) t ht))
  clear inv hd hall hS KU hd0
  obtain ⟨tmps, defers⟩ := a'
  obtain rfl : defers = [] := hdf
  replace e : tmps = List.foldl (fun G t => G.setIfInBounds t (tmps.getD t undef)) _ [2, 3, 4, 5, 6, 7, 8] := e
  simp only [List.foldl_cons, List.foldl_nil] at e
  replace hu2 : ((fun v w => w.ownsRow W1.heap.size 5 1 v (24 + (2 + n)) (ints .u8 (F ++ (Cd.be 2 t.length ++ t))))) (tmps.getD 2 undef) w3 := hu2
  generalize tmps.getD 2 undef = x2 at *
  generalize tmps.getD 3 undef = x3 at *
  generalize tmps.getD 4 undef = x4 at *
  generalize tmps.getD 5 undef = x5 at *
  generalize tmps.getD 6 undef = x6 at *
  generalize tmps.getD 7 undef = x7 at *
  generalize tmps.getD 8 undef = x8 at *
  simp only [List.setIfInBounds_toArray, List.set_cons_succ, List.set_cons_zero] at e
  subst e
  have G3 : Hid (w3.ownsRow W.heap.size 5 1 x2 (24 + (2 + n)) (ints .u8 (F ++ (Cd.be 2 t.length ++ t))) ∧ Below W.heap.size W w3) := ⟨S7.own_older hu2 HZ1.out, B1.out.trans (hgrow.mono HZ1.out)⟩
  clear hu2 hgrow HF HT HT0 HM
  obtain ⟨uq, uc, rfl⟩ := own_slice G3.out.1
  go_wp2_with fail
  go_ret
  exact ⟨_, rfl, G3.out⟩
end Go.Proofs.YtfjdaafckiefdaaGreatDoor.S15
