/- The contract of Right. -/
import Derived.Test.YtigfiopmochliaaE9Named
import Derived.Test.YtigfiopmochliaaE9Same
import Derived.Test.YtigfiopmochliaaMgB
namespace Go.Proofs.Ytigfiopmochliaa.E9
open Go.RowKit C8
/-- An entry's nine cells. -/
def enC (a1 a2 a3 : Int) (np : Option Addr) (n4 nc : Nat) (vp : Option Addr) (n5 vc : Nat) (a6 a7 a8 : Int) (q : Option Addr) (n9 c : Nat) : Array Value := #[.int .i64 a1, .int .i64 a2, .int .i64 a3, .slice np n4 nc, .slice vp n5 vc, .int .i64 a6, .int .i64 a7, .int .i64 a8, .slice q n9 c]
/-- A value that is this entry. -/
def EnsV (e : En) (v : Value) (w : World) : Prop := EnIs w v e
theorem EnsV.kept {e : En} {v : Value} {w w' : World} (h : EnsV e v w) (ho : Only [] w w') : EnsV e v w' := EnIs.below h (ho.below (Nat.le_refl _) (by simp))
theorem fa25_1 (b : Nat) (w : World) : (Instr.fieldAt 30 (.pointer (some ⟨b, 0, none⟩)) 1).run Try.prog w = .ok (.pointer (some ⟨b, 1, none⟩)) w := by simp [go_sem]
theorem fa25_2 (b : Nat) (w : World) : (Instr.fieldAt 30 (.pointer (some ⟨b, 0, none⟩)) 2).run Try.prog w = .ok (.pointer (some ⟨b, 2, none⟩)) w := by simp [go_sem]
theorem ld25 {b : Nat} {cs : Array Value} {t : TypeId} {fr : Nat × Nat} {w : World} (h : w.heap[b]? = some (.cells cs t fr) ∧ cs.size = 9) : (Instr.loadAt 30 (.pointer (some ⟨b, 0, none⟩))).run Try.prog w = .ok (.agg cs) w := by
  simp only [Instr.loadAt, Instr.sureAddr, Sem.run_bind, Sem.run_pure, Result.andThen_ok, run_loadVar_row (P := Try.prog) w b t 30 cs fr _ h.1 Try.underlying30 rfl (by rw [h.2]; kernel_rfl)]

def rgA (pb : Nat) (a2 : Int) : Nat → Value → World → Prop
  | 0 => IsV (.pointer (some ⟨pb, 1, none⟩))
  | 1 => IsV (.int .i64 a2)
  | 2 => IsV (.bool false)
  | 3 => IsV (.bool false)
  | 4 => IsV undef
  | 5 => IsV undef
  | 6 => IsV undef
  | 7 => IsV (.bool false)
  | 8 => IsV (.bool false)
  | 9 => IsV undef
  | 10 => IsV undef
  | 11 => IsV (.bool false)
  | 12 => IsV (.bool false)
  | 13 => IsV undef
  | 14 => IsV undef
  | 15 => IsV undef
  | 16 => IsV undef
  | 17 => IsV (.bool false)
  | 18 => IsV (.bool false)
  | _ => fun _ _ => True
theorem rgA_kept (pb : Nat) (a2 : Int) : ∀ i v w w', rgA pb a2 i v w → Only [] w w' → rgA pb a2 i v w'
  | 0, _, _, _, h, _ => h
  | 1, _, _, _, h, _ => h
  | 2, _, _, _, h, _ => h
  | 3, _, _, _, h, _ => h
  | 4, _, _, _, h, _ => h
  | 5, _, _, _, h, _ => h
  | 6, _, _, _, h, _ => h
  | 7, _, _, _, h, _ => h
  | 8, _, _, _, h, _ => h
  | 9, _, _, _, h, _ => h
  | 10, _, _, _, h, _ => h
  | 11, _, _, _, h, _ => h
  | 12, _, _, _, h, _ => h
  | 13, _, _, _, h, _ => h
  | 14, _, _, _, h, _ => h
  | 15, _, _, _, h, _ => h
  | 16, _, _, _, h, _ => h
  | 17, _, _, _, h, _ => h
  | 18, _, _, _, h, _ => h
  | _ + 19, _, _, _, _, _ => trivial
def rgB (pb : Nat) (a2 a3 : Int) : Nat → Value → World → Prop
  | 0 => IsV (.pointer (some ⟨pb, 1, none⟩))
  | 1 => IsV (.int .i64 a2)
  | 2 => IsV (.bool true)
  | 3 => IsV (.bool true)
  | 4 => IsV (.pointer (some ⟨pb, 2, none⟩))
  | 5 => IsV (.int .i64 a3)
  | 6 => IsV (.bool false)
  | 7 => IsV (.bool false)
  | 8 => IsV (.bool false)
  | 9 => IsV undef
  | 10 => IsV undef
  | 11 => IsV (.bool false)
  | 12 => IsV (.bool false)
  | 13 => IsV undef
  | 14 => IsV undef
  | 15 => IsV undef
  | 16 => IsV undef
  | 17 => IsV (.bool false)
  | 18 => IsV (.bool false)
  | _ => fun _ _ => True
theorem rgB_kept (pb : Nat) (a2 a3 : Int) : ∀ i v w w', rgB pb a2 a3 i v w → Only [] w w' → rgB pb a2 a3 i v w'
  | 0, _, _, _, h, _ => h
  | 1, _, _, _, h, _ => h
  | 2, _, _, _, h, _ => h
  | 3, _, _, _, h, _ => h
  | 4, _, _, _, h, _ => h
  | 5, _, _, _, h, _ => h
  | 6, _, _, _, h, _ => h
  | 7, _, _, _, h, _ => h
  | 8, _, _, _, h, _ => h
  | 9, _, _, _, h, _ => h
  | 10, _, _, _, h, _ => h
  | 11, _, _, _, h, _ => h
  | 12, _, _, _, h, _ => h
  | 13, _, _, _, h, _ => h
  | 14, _, _, _, h, _ => h
  | 15, _, _, _, h, _ => h
  | 16, _, _, _, h, _ => h
  | 17, _, _, _, h, _ => h
  | 18, _, _, _, h, _ => h
  | _ + 19, _, _, _, _, _ => trivial
def rgC (pb : Nat) (a2 a3 : Int) (CC : Array Value) : Nat → Value → World → Prop
  | 0 => IsV (.pointer (some ⟨pb, 1, none⟩))
  | 1 => IsV (.int .i64 a2)
  | 2 => IsV (.bool true)
  | 3 => IsV (.bool true)
  | 4 => IsV (.pointer (some ⟨pb, 2, none⟩))
  | 5 => IsV (.int .i64 a3)
  | 6 => IsV (.bool true)
  | 7 => IsV (.bool true)
  | 8 => IsV (.bool true)
  | 9 => IsV (.agg CC)
  | 10 => IsV (.bool false)
  | 11 => IsV (.bool false)
  | 12 => IsV (.bool false)
  | 13 => IsV undef
  | 14 => IsV undef
  | 15 => IsV undef
  | 16 => IsV undef
  | 17 => IsV (.bool false)
  | 18 => IsV (.bool false)
  | _ => fun _ _ => True
theorem rgC_kept (pb : Nat) (a2 a3 : Int) (CC : Array Value) : ∀ i v w w', rgC pb a2 a3 CC i v w → Only [] w w' → rgC pb a2 a3 CC i v w'
  | 0, _, _, _, h, _ => h
  | 1, _, _, _, h, _ => h
  | 2, _, _, _, h, _ => h
  | 3, _, _, _, h, _ => h
  | 4, _, _, _, h, _ => h
  | 5, _, _, _, h, _ => h
  | 6, _, _, _, h, _ => h
  | 7, _, _, _, h, _ => h
  | 8, _, _, _, h, _ => h
  | 9, _, _, _, h, _ => h
  | 10, _, _, _, h, _ => h
  | 11, _, _, _, h, _ => h
  | 12, _, _, _, h, _ => h
  | 13, _, _, _, h, _ => h
  | 14, _, _, _, h, _ => h
  | 15, _, _, _, h, _ => h
  | 16, _, _, _, h, _ => h
  | 17, _, _, _, h, _ => h
  | 18, _, _, _, h, _ => h
  | _ + 19, _, _, _, _, _ => trivial
def rgD (pb : Nat) (a2 a3 : Int) (CC : Array Value) (nd : En) (sm : Bool) : Nat → Value → World → Prop
  | 0 => IsV (.pointer (some ⟨pb, 1, none⟩))
  | 1 => IsV (.int .i64 a2)
  | 2 => IsV (.bool true)
  | 3 => IsV (.bool true)
  | 4 => IsV (.pointer (some ⟨pb, 2, none⟩))
  | 5 => IsV (.int .i64 a3)
  | 6 => IsV (.bool true)
  | 7 => IsV (.bool true)
  | 8 => IsV (.bool true)
  | 9 => IsV (.agg CC)
  | 10 => IsV (.bool true)
  | 11 => IsV (.bool true)
  | 12 => IsV (.bool true)
  | 13 => IsV (.agg CC)
  | 14 => IsV (.agg CC)
  | 15 => EnsV nd
  | 16 => IsV (.bool sm)
  | 17 => IsV (.bool sm)
  | 18 => IsV (.bool sm)
  | _ => fun _ _ => True
theorem rgD_kept (pb : Nat) (a2 a3 : Int) (CC : Array Value) (nd : En) (sm : Bool) : ∀ i v w w', rgD pb a2 a3 CC nd sm i v w → Only [] w w' → rgD pb a2 a3 CC nd sm i v w'
  | 0, _, _, _, h, _ => h
  | 1, _, _, _, h, _ => h
  | 2, _, _, _, h, _ => h
  | 3, _, _, _, h, _ => h
  | 4, _, _, _, h, _ => h
  | 5, _, _, _, h, _ => h
  | 6, _, _, _, h, _ => h
  | 7, _, _, _, h, _ => h
  | 8, _, _, _, h, _ => h
  | 9, _, _, _, h, _ => h
  | 10, _, _, _, h, _ => h
  | 11, _, _, _, h, _ => h
  | 12, _, _, _, h, _ => h
  | 13, _, _, _, h, _ => h
  | 14, _, _, _, h, _ => h
  | 15, _, _, _, h, ho => EnsV.kept h ho
  | 16, _, _, _, h, _ => h
  | 17, _, _, _, h, _ => h
  | 18, _, _, _, h, _ => h
  | _ + 19, _, _, _, _, _ => trivial
theorem frame13 {A F : Array Value} (hs : A.size = 21) (h : ∀ t, [2, 3, 4, 5, 6, 7, 8, 9, 10, 11, 12, 13, 14, 15, 16, 17, 18, 19, 20].contains t = false → A.getD t undef = F.getD t undef) : A = #[F.getD 0 undef, F.getD 1 undef, A.getD 2 undef, A.getD 3 undef, A.getD 4 undef, A.getD 5 undef, A.getD 6 undef, A.getD 7 undef, A.getD 8 undef, A.getD 9 undef, A.getD 10 undef, A.getD 11 undef, A.getD 12 undef, A.getD 13 undef, A.getD 14 undef, A.getD 15 undef, A.getD 16 undef, A.getD 17 undef, A.getD 18 undef, A.getD 19 undef, A.getD 20 undef] := by
  rw [← h 0 (by decide), ← h 1 (by decide)]
  refine Array.ext (by simp [hs]) (fun i h1 h2 => ?_)
  have e : A[i] = A.getD i undef := by simp [h1]
  rw [e]
  rw [hs] at h1
  clear e h hs
  match i, h1 with
  | 0, _ => rfl
  | 1, _ => rfl
  | 2, _ => rfl
  | 3, _ => rfl
  | 4, _ => rfl
  | 5, _ => rfl
  | 6, _ => rfl
  | 7, _ => rfl
  | 8, _ => rfl
  | 9, _ => rfl
  | 10, _ => rfl
  | 11, _ => rfl
  | 12, _ => rfl
  | 13, _ => rfl
  | 14, _ => rfl
  | 15, _ => rfl
  | 16, _ => rfl
  | 17, _ => rfl
  | 18, _ => rfl
  | 19, _ => rfl
  | 20, _ => rfl
  | _ + 21, h => exact absurd h (by omega)
set_option maxHeartbeats 4000000 in
theorem rt1 (w : World) (CC : Array Value) (a2 : Int) (pb : Nat) (W : World) (HPB : Hid (w.heap.size = pb)) (HW : Hid (w.alloc (.cells CC 30) = W)) (HB : Hid (Below w.heap.size w W)) (HC1 : Hid (∀ w', Only [] W w' → w'.cell? ⟨pb, 1, none⟩ = some (.int .i64 a2))) (HX : Hid (decide ((1 : Int) ≤ a2 ∧ a2 ≤ 16) = false)) :
    Calls Try.prog 25 #[.agg CC] w fun e w' => e = .returned (.bool false) ∧ Below w.heap.size w w' := by
  have HFIN : Hid (∀ w', Only [] W w' → Below w.heap.size w w') := fun w' ho => HB.out.trans (ho.below HB.out.size (by simp))
  go_enter Try.func25, Try.ntmps25
  go_wp2_with fail
  rw [HW.out, HPB.out]
  have RB : ∀ k w w', Below w.heap.size w w' → (fun (_ : Nat) (_ : World) => True) k w → (fun (_ : Nat) (_ : World) => True) k w' := fun _ _ _ _ _ => trivial
  refine wp_region_st (rgA pb a2) (fun u u' => Only [] u u') (SeqS [] (fun (_ : Nat) (_ : World) => True)) (by kernel_rfl) (only_drew _ _) (only_trans _) (rgA_kept pb a2) (by kernel_rfl) (SeqS.start (trivial)) ?_ ?_
  · intro i o a' w' f hi inv hS hfi hfw hpre
    have ho : Only [] W w' := inv.grow
    have hlt : i < 19 := (Array.getElem?_eq_some_iff.1 hi).1
    obtain rfl|rfl|rfl|rfl|rfl|rfl|rfl|rfl|rfl|rfl|rfl|rfl|rfl|rfl|rfl|rfl|rfl|rfl|rfl : i = 0 ∨ i = 1 ∨ i = 2 ∨ i = 3 ∨ i = 4 ∨ i = 5 ∨ i = 6 ∨ i = 7 ∨ i = 8 ∨ i = 9 ∨ i = 10 ∨ i = 11 ∨ i = 12 ∨ i = 13 ∨ i = 14 ∨ i = 15 ∨ i = 16 ∨ i = 17 ∨ i = 18 := by omega
    · obtain rfl := Option.some.inj hi
      have h0 : a'.tmps.getD 1 undef = (.pointer (some ⟨pb, 0, none⟩)) := by rw [inv.old 1 (notDst_spec (by kernel_rfl))]; rfl
      exact sq_value _ rfl rfl (fa_run 30 1 1 pb rfl h0 (fa25_1 pb)) (Below.refl _ _) (by decide) hS RB rfl
    · obtain rfl := Option.some.inj hi
      have h0 : a'.tmps.getD 3 undef = _ := pre_of hpre 0 3 (by kernel_rfl) (by kernel_rfl)
      exact sq_value _ rfl rfl (load_run 3 3 pb (1) _ rfl h0 (ld3 (HC1.out w' ho))) (Below.refl _ _) (by decide) hS RB rfl
    · obtain rfl := Option.some.inj hi
      have h0 : a'.tmps.getD 4 undef = _ := pre_of hpre 1 4 (by kernel_rfl) (by kernel_rfl)
      refine sq_quiet 32 #[a'.tmps.getD 4 undef, .int .i64 1, .int .i64 16] rfl rfl (by kernel_rfl) (by decide) hS ?_
      rw [h0]
      exact (within_any _ _ _ w').mono (by rintro e u ⟨rfl, rfl⟩; exact ⟨_, rfl, Only.refl _ _, (fun _ h => h), by rw [HX.out]; rfl⟩)
    · obtain rfl := Option.some.inj hi
      have h0 := pre_of hpre 2 5 (by kernel_rfl) (by kernel_rfl)
      exact sq_value _ rfl rfl (rfl) (Below.refl _ _) (by decide) hS RB h0
    · obtain rfl := Option.some.inj hi
      have hgu : a'.tmps.getD 6 undef = _ := pre_of hpre 3 6 (by kernel_rfl) (by kernel_rfl)
      exact sq_skip rfl (unwanted_of 3 6 false rfl (by kernel_rfl) hgu) (by decide) hS rfl
    · obtain rfl := Option.some.inj hi
      have hgu : a'.tmps.getD 6 undef = _ := pre_of hpre 3 6 (by kernel_rfl) (by kernel_rfl)
      exact sq_skip rfl (unwanted_of 3 6 false rfl (by kernel_rfl) hgu) (by decide) hS rfl
    · obtain rfl := Option.some.inj hi
      have hgu : a'.tmps.getD 6 undef = _ := pre_of hpre 3 6 (by kernel_rfl) (by kernel_rfl)
      exact sq_skip rfl (unwanted_of 3 6 false rfl (by kernel_rfl) hgu) (by decide) hS rfl
    · obtain rfl := Option.some.inj hi
      have h0 : a'.tmps.getD 6 undef = _ := pre_of hpre 3 6 (by kernel_rfl) (by kernel_rfl)
      exact sq_value _ rfl rfl (pick_run 6 false _ _ _ _ rfl h0 rfl rfl) (Below.refl _ _) (by decide) hS RB rfl
    · obtain rfl := Option.some.inj hi
      have h0 := pre_of hpre 7 10 (by kernel_rfl) (by kernel_rfl)
      exact sq_value _ rfl rfl (rfl) (Below.refl _ _) (by decide) hS RB h0
    · obtain rfl := Option.some.inj hi
      have hgu : a'.tmps.getD 11 undef = _ := pre_of hpre 8 11 (by kernel_rfl) (by kernel_rfl)
      exact sq_skip rfl (unwanted_of 8 11 false rfl (by kernel_rfl) hgu) (by decide) hS rfl
    · obtain rfl := Option.some.inj hi
      have hgu : a'.tmps.getD 11 undef = _ := pre_of hpre 8 11 (by kernel_rfl) (by kernel_rfl)
      exact sq_skip rfl (unwanted_of 8 11 false rfl (by kernel_rfl) hgu) (by decide) hS rfl
    · obtain rfl := Option.some.inj hi
      have h0 : a'.tmps.getD 11 undef = _ := pre_of hpre 8 11 (by kernel_rfl) (by kernel_rfl)
      exact sq_value _ rfl rfl (pick_run 11 false _ _ _ _ rfl h0 rfl rfl) (Below.refl _ _) (by decide) hS RB rfl
    · obtain rfl := Option.some.inj hi
      have h0 := pre_of hpre 11 14 (by kernel_rfl) (by kernel_rfl)
      exact sq_value _ rfl rfl (rfl) (Below.refl _ _) (by decide) hS RB h0
    · obtain rfl := Option.some.inj hi
      have hgu : a'.tmps.getD 15 undef = _ := pre_of hpre 12 15 (by kernel_rfl) (by kernel_rfl)
      exact sq_skip rfl (unwanted_of 12 15 false rfl (by kernel_rfl) hgu) (by decide) hS rfl
    · obtain rfl := Option.some.inj hi
      have hgu : a'.tmps.getD 15 undef = _ := pre_of hpre 12 15 (by kernel_rfl) (by kernel_rfl)
      exact sq_skip rfl (unwanted_of 12 15 false rfl (by kernel_rfl) hgu) (by decide) hS rfl
    · obtain rfl := Option.some.inj hi
      have hgu : a'.tmps.getD 15 undef = _ := pre_of hpre 12 15 (by kernel_rfl) (by kernel_rfl)
      exact sq_skip rfl (unwanted_of 12 15 false rfl (by kernel_rfl) hgu) (by decide) hS rfl
    · obtain rfl := Option.some.inj hi
      have hgu : a'.tmps.getD 15 undef = _ := pre_of hpre 12 15 (by kernel_rfl) (by kernel_rfl)
      exact sq_skip rfl (unwanted_of 12 15 false rfl (by kernel_rfl) hgu) (by decide) hS rfl
    · obtain rfl := Option.some.inj hi
      have h0 : a'.tmps.getD 15 undef = _ := pre_of hpre 12 15 (by kernel_rfl) (by kernel_rfl)
      exact sq_value _ rfl rfl (pick_run 15 false _ _ _ _ rfl h0 rfl rfl) (Below.refl _ _) (by decide) hS RB rfl
    · obtain rfl := Option.some.inj hi
      have h0 := pre_of hpre 17 20 (by kernel_rfl) (by kernel_rfl)
      exact sq_value _ rfl rfl (rfl) (Below.refl _ _) (by decide) hS RB h0
  · intro a' w3 f inv hS hall hd
    have hk18 := hd 18 2 (by kernel_rfl)
    have ho : Only [] W w3 := inv.grow
    have hdf : a'.defers = [] := inv.defers
    have hsz : a'.tmps.size = 21 := inv.size
    have e := frame13 hsz (fun t ht => inv.old t (dstsIn_spec (ts := [2, 3, 4, 5, 6, 7, 8, 9, 10, 11, 12, 13, 14, 15, 16, 17, 18, 19, 20]) (by kernel_rfl) t ht))
    have hR := hS.done (fun c hc => hall c (show c < 19 by simp at hc <;> omega))
    clear inv hd hsz hall hS
    obtain ⟨tmps, defers⟩ := a'
    obtain rfl : defers = [] := hdf
    replace e : tmps = _ := e
    replace hk18 : tmps.getD 2 undef = (.bool false) := hk18
    generalize tmps.getD 2 undef = x2 at *
    generalize tmps.getD 3 undef = x3 at *
    generalize tmps.getD 4 undef = x4 at *
    generalize tmps.getD 5 undef = x5 at *
    generalize tmps.getD 6 undef = x6 at *
    generalize tmps.getD 7 undef = x7 at *
    generalize tmps.getD 8 undef = x8 at *
    generalize tmps.getD 9 undef = x9 at *
    generalize tmps.getD 10 undef = x10 at *
    generalize tmps.getD 11 undef = x11 at *
    generalize tmps.getD 12 undef = x12 at *
    generalize tmps.getD 13 undef = x13 at *
    generalize tmps.getD 14 undef = x14 at *
    generalize tmps.getD 15 undef = x15 at *
    generalize tmps.getD 16 undef = x16 at *
    generalize tmps.getD 17 undef = x17 at *
    generalize tmps.getD 18 undef = x18 at *
    generalize tmps.getD 19 undef = x19 at *
    generalize tmps.getD 20 undef = x20 at *
    simp only [Array.getD_eq_getD_getElem?, List.getElem?_toArray, List.getElem?_cons_succ, List.getElem?_cons_zero, Option.getD_some] at e
    subst e
    subst hk18
    go_wp2_with fail
    go_ret
    exact ⟨rfl, HFIN.out _ ho⟩
set_option maxHeartbeats 4000000 in
theorem rt2 (w : World) (CC : Array Value) (a2 a3 : Int) (pb : Nat) (W : World) (HPB : Hid (w.heap.size = pb)) (HW : Hid (w.alloc (.cells CC 30) = W)) (HB : Hid (Below w.heap.size w W)) (HC1 : Hid (∀ w', Only [] W w' → w'.cell? ⟨pb, 1, none⟩ = some (.int .i64 a2))) (HC2 : Hid (∀ w', Only [] W w' → w'.cell? ⟨pb, 2, none⟩ = some (.int .i64 a3))) (HX : Hid (decide ((1 : Int) ≤ a2 ∧ a2 ≤ 16) = true)) (HY : Hid (decide ((1 : Int) ≤ a3 ∧ a3 ≤ 1099511627776) = false)) :
    Calls Try.prog 25 #[.agg CC] w fun e w' => e = .returned (.bool false) ∧ Below w.heap.size w w' := by
  have HFIN : Hid (∀ w', Only [] W w' → Below w.heap.size w w') := fun w' ho => HB.out.trans (ho.below HB.out.size (by simp))
  go_enter Try.func25, Try.ntmps25
  go_wp2_with fail
  rw [HW.out, HPB.out]
  have RB : ∀ k w w', Below w.heap.size w w' → (fun (_ : Nat) (_ : World) => True) k w → (fun (_ : Nat) (_ : World) => True) k w' := fun _ _ _ _ _ => trivial
  refine wp_region_st (rgB pb a2 a3) (fun u u' => Only [] u u') (SeqS [] (fun (_ : Nat) (_ : World) => True)) (by kernel_rfl) (only_drew _ _) (only_trans _) (rgB_kept pb a2 a3) (by kernel_rfl) (SeqS.start (trivial)) ?_ ?_
  · intro i o a' w' f hi inv hS hfi hfw hpre
    have ho : Only [] W w' := inv.grow
    have hlt : i < 19 := (Array.getElem?_eq_some_iff.1 hi).1
    obtain rfl|rfl|rfl|rfl|rfl|rfl|rfl|rfl|rfl|rfl|rfl|rfl|rfl|rfl|rfl|rfl|rfl|rfl|rfl : i = 0 ∨ i = 1 ∨ i = 2 ∨ i = 3 ∨ i = 4 ∨ i = 5 ∨ i = 6 ∨ i = 7 ∨ i = 8 ∨ i = 9 ∨ i = 10 ∨ i = 11 ∨ i = 12 ∨ i = 13 ∨ i = 14 ∨ i = 15 ∨ i = 16 ∨ i = 17 ∨ i = 18 := by omega
    · obtain rfl := Option.some.inj hi
      have h0 : a'.tmps.getD 1 undef = (.pointer (some ⟨pb, 0, none⟩)) := by rw [inv.old 1 (notDst_spec (by kernel_rfl))]; rfl
      exact sq_value _ rfl rfl (fa_run 30 1 1 pb rfl h0 (fa25_1 pb)) (Below.refl _ _) (by decide) hS RB rfl
    · obtain rfl := Option.some.inj hi
      have h0 : a'.tmps.getD 3 undef = _ := pre_of hpre 0 3 (by kernel_rfl) (by kernel_rfl)
      exact sq_value _ rfl rfl (load_run 3 3 pb (1) _ rfl h0 (ld3 (HC1.out w' ho))) (Below.refl _ _) (by decide) hS RB rfl
    · obtain rfl := Option.some.inj hi
      have h0 : a'.tmps.getD 4 undef = _ := pre_of hpre 1 4 (by kernel_rfl) (by kernel_rfl)
      refine sq_quiet 32 #[a'.tmps.getD 4 undef, .int .i64 1, .int .i64 16] rfl rfl (by kernel_rfl) (by decide) hS ?_
      rw [h0]
      exact (within_any _ _ _ w').mono (by rintro e u ⟨rfl, rfl⟩; exact ⟨_, rfl, Only.refl _ _, (fun _ h => h), by rw [HX.out]; rfl⟩)
    · obtain rfl := Option.some.inj hi
      have h0 := pre_of hpre 2 5 (by kernel_rfl) (by kernel_rfl)
      exact sq_value _ rfl rfl (rfl) (Below.refl _ _) (by decide) hS RB h0
    · obtain rfl := Option.some.inj hi
      have hgu : a'.tmps.getD 6 undef = _ := pre_of hpre 3 6 (by kernel_rfl) (by kernel_rfl)
      have h0 : a'.tmps.getD 1 undef = (.pointer (some ⟨pb, 0, none⟩)) := by rw [inv.old 1 (notDst_spec (by kernel_rfl))]; rfl
      exact sq_value _ rfl (wanted_of 3 6 true rfl (by kernel_rfl) hgu) (fa_run 30 2 1 pb rfl h0 (fa25_2 pb)) (Below.refl _ _) (by decide) hS RB rfl
    · obtain rfl := Option.some.inj hi
      have hgu : a'.tmps.getD 6 undef = _ := pre_of hpre 3 6 (by kernel_rfl) (by kernel_rfl)
      have h0 : a'.tmps.getD 7 undef = _ := pre_of hpre 4 7 (by kernel_rfl) (by kernel_rfl)
      exact sq_value _ rfl (wanted_of 3 6 true rfl (by kernel_rfl) hgu) (load_run 3 7 pb (2) _ rfl h0 (ld3 (HC2.out w' ho))) (Below.refl _ _) (by decide) hS RB rfl
    · obtain rfl := Option.some.inj hi
      have hgu : a'.tmps.getD 6 undef = _ := pre_of hpre 3 6 (by kernel_rfl) (by kernel_rfl)
      have h0 : a'.tmps.getD 8 undef = _ := pre_of hpre 5 8 (by kernel_rfl) (by kernel_rfl)
      refine sq_quiet 32 #[a'.tmps.getD 8 undef, .int .i64 1, .int .i64 1099511627776] rfl (wanted_of 3 6 true rfl (by kernel_rfl) hgu) (by kernel_rfl) (by decide) hS ?_
      rw [h0]
      exact (within_any _ _ _ w').mono (by rintro e u ⟨rfl, rfl⟩; exact ⟨_, rfl, Only.refl _ _, (fun _ h => h), by rw [HY.out]; rfl⟩)
    · obtain rfl := Option.some.inj hi
      have h0 : a'.tmps.getD 6 undef = _ := pre_of hpre 3 6 (by kernel_rfl) (by kernel_rfl)
      have h1 : a'.tmps.getD 9 undef = _ := pre_of hpre 6 9 (by kernel_rfl) (by kernel_rfl)
      exact sq_value _ rfl rfl (pick_run 6 true _ _ _ _ rfl h0 h1 rfl) (Below.refl _ _) (by decide) hS RB rfl
    · obtain rfl := Option.some.inj hi
      have h0 := pre_of hpre 7 10 (by kernel_rfl) (by kernel_rfl)
      exact sq_value _ rfl rfl (rfl) (Below.refl _ _) (by decide) hS RB h0
    · obtain rfl := Option.some.inj hi
      have hgu : a'.tmps.getD 11 undef = _ := pre_of hpre 8 11 (by kernel_rfl) (by kernel_rfl)
      exact sq_skip rfl (unwanted_of 8 11 false rfl (by kernel_rfl) hgu) (by decide) hS rfl
    · obtain rfl := Option.some.inj hi
      have hgu : a'.tmps.getD 11 undef = _ := pre_of hpre 8 11 (by kernel_rfl) (by kernel_rfl)
      exact sq_skip rfl (unwanted_of 8 11 false rfl (by kernel_rfl) hgu) (by decide) hS rfl
    · obtain rfl := Option.some.inj hi
      have h0 : a'.tmps.getD 11 undef = _ := pre_of hpre 8 11 (by kernel_rfl) (by kernel_rfl)
      exact sq_value _ rfl rfl (pick_run 11 false _ _ _ _ rfl h0 rfl rfl) (Below.refl _ _) (by decide) hS RB rfl
    · obtain rfl := Option.some.inj hi
      have h0 := pre_of hpre 11 14 (by kernel_rfl) (by kernel_rfl)
      exact sq_value _ rfl rfl (rfl) (Below.refl _ _) (by decide) hS RB h0
    · obtain rfl := Option.some.inj hi
      have hgu : a'.tmps.getD 15 undef = _ := pre_of hpre 12 15 (by kernel_rfl) (by kernel_rfl)
      exact sq_skip rfl (unwanted_of 12 15 false rfl (by kernel_rfl) hgu) (by decide) hS rfl
    · obtain rfl := Option.some.inj hi
      have hgu : a'.tmps.getD 15 undef = _ := pre_of hpre 12 15 (by kernel_rfl) (by kernel_rfl)
      exact sq_skip rfl (unwanted_of 12 15 false rfl (by kernel_rfl) hgu) (by decide) hS rfl
    · obtain rfl := Option.some.inj hi
      have hgu : a'.tmps.getD 15 undef = _ := pre_of hpre 12 15 (by kernel_rfl) (by kernel_rfl)
      exact sq_skip rfl (unwanted_of 12 15 false rfl (by kernel_rfl) hgu) (by decide) hS rfl
    · obtain rfl := Option.some.inj hi
      have hgu : a'.tmps.getD 15 undef = _ := pre_of hpre 12 15 (by kernel_rfl) (by kernel_rfl)
      exact sq_skip rfl (unwanted_of 12 15 false rfl (by kernel_rfl) hgu) (by decide) hS rfl
    · obtain rfl := Option.some.inj hi
      have h0 : a'.tmps.getD 15 undef = _ := pre_of hpre 12 15 (by kernel_rfl) (by kernel_rfl)
      exact sq_value _ rfl rfl (pick_run 15 false _ _ _ _ rfl h0 rfl rfl) (Below.refl _ _) (by decide) hS RB rfl
    · obtain rfl := Option.some.inj hi
      have h0 := pre_of hpre 17 20 (by kernel_rfl) (by kernel_rfl)
      exact sq_value _ rfl rfl (rfl) (Below.refl _ _) (by decide) hS RB h0
  · intro a' w3 f inv hS hall hd
    have hk18 := hd 18 2 (by kernel_rfl)
    have ho : Only [] W w3 := inv.grow
    have hdf : a'.defers = [] := inv.defers
    have hsz : a'.tmps.size = 21 := inv.size
    have e := frame13 hsz (fun t ht => inv.old t (dstsIn_spec (ts := [2, 3, 4, 5, 6, 7, 8, 9, 10, 11, 12, 13, 14, 15, 16, 17, 18, 19, 20]) (by kernel_rfl) t ht))
    have hR := hS.done (fun c hc => hall c (show c < 19 by simp at hc <;> omega))
    clear inv hd hsz hall hS
    obtain ⟨tmps, defers⟩ := a'
    obtain rfl : defers = [] := hdf
    replace e : tmps = _ := e
    replace hk18 : tmps.getD 2 undef = (.bool false) := hk18
    generalize tmps.getD 2 undef = x2 at *
    generalize tmps.getD 3 undef = x3 at *
    generalize tmps.getD 4 undef = x4 at *
    generalize tmps.getD 5 undef = x5 at *
    generalize tmps.getD 6 undef = x6 at *
    generalize tmps.getD 7 undef = x7 at *
    generalize tmps.getD 8 undef = x8 at *
    generalize tmps.getD 9 undef = x9 at *
    generalize tmps.getD 10 undef = x10 at *
    generalize tmps.getD 11 undef = x11 at *
    generalize tmps.getD 12 undef = x12 at *
    generalize tmps.getD 13 undef = x13 at *
    generalize tmps.getD 14 undef = x14 at *
    generalize tmps.getD 15 undef = x15 at *
    generalize tmps.getD 16 undef = x16 at *
    generalize tmps.getD 17 undef = x17 at *
    generalize tmps.getD 18 undef = x18 at *
    generalize tmps.getD 19 undef = x19 at *
    generalize tmps.getD 20 undef = x20 at *
    simp only [Array.getD_eq_getD_getElem?, List.getElem?_toArray, List.getElem?_cons_succ, List.getElem?_cons_zero, Option.getD_some] at e
    subst e
    subst hk18
    go_wp2_with fail
    go_ret
    exact ⟨rfl, HFIN.out _ ho⟩
set_option maxHeartbeats 4000000 in
theorem rt3 (w : World) (CC : Array Value) (a2 a3 : Int) (pb : Nat) (W : World) (HPB : Hid (w.heap.size = pb)) (HW : Hid (w.alloc (.cells CC 30) = W)) (HB : Hid (Below w.heap.size w W)) (HC0 : Hid (∀ w', Only [] W w' → w'.heap[pb]? = some (.cells CC 30 (0, 0)) ∧ CC.size = 9)) (HC1 : Hid (∀ w', Only [] W w' → w'.cell? ⟨pb, 1, none⟩ = some (.int .i64 a2))) (HC2 : Hid (∀ w', Only [] W w' → w'.cell? ⟨pb, 2, none⟩ = some (.int .i64 a3))) (HX : Hid (decide ((1 : Int) ≤ a2 ∧ a2 ≤ 16) = true)) (HY : Hid (decide ((1 : Int) ≤ a3 ∧ a3 ≤ 1099511627776) = true)) (HK : Hid (∀ w', Only [] W w' → Calls Try.prog 33 #[.agg CC] w' fun e u => e = .returned (.bool false) ∧ Below w'.heap.size w' u)) :
    Calls Try.prog 25 #[.agg CC] w fun e w' => e = .returned (.bool false) ∧ Below w.heap.size w w' := by
  have HFIN : Hid (∀ w', Only [] W w' → Below w.heap.size w w') := fun w' ho => HB.out.trans (ho.below HB.out.size (by simp))
  go_enter Try.func25, Try.ntmps25
  go_wp2_with fail
  rw [HW.out, HPB.out]
  have RB : ∀ k w w', Below w.heap.size w w' → (fun (_ : Nat) (_ : World) => True) k w → (fun (_ : Nat) (_ : World) => True) k w' := fun _ _ _ _ _ => trivial
  refine wp_region_st (rgC pb a2 a3 CC) (fun u u' => Only [] u u') (SeqS [] (fun (_ : Nat) (_ : World) => True)) (by kernel_rfl) (only_drew _ _) (only_trans _) (rgC_kept pb a2 a3 CC) (by kernel_rfl) (SeqS.start (trivial)) ?_ ?_
  · intro i o a' w' f hi inv hS hfi hfw hpre
    have ho : Only [] W w' := inv.grow
    have hlt : i < 19 := (Array.getElem?_eq_some_iff.1 hi).1
    obtain rfl|rfl|rfl|rfl|rfl|rfl|rfl|rfl|rfl|rfl|rfl|rfl|rfl|rfl|rfl|rfl|rfl|rfl|rfl : i = 0 ∨ i = 1 ∨ i = 2 ∨ i = 3 ∨ i = 4 ∨ i = 5 ∨ i = 6 ∨ i = 7 ∨ i = 8 ∨ i = 9 ∨ i = 10 ∨ i = 11 ∨ i = 12 ∨ i = 13 ∨ i = 14 ∨ i = 15 ∨ i = 16 ∨ i = 17 ∨ i = 18 := by omega
    · obtain rfl := Option.some.inj hi
      have h0 : a'.tmps.getD 1 undef = (.pointer (some ⟨pb, 0, none⟩)) := by rw [inv.old 1 (notDst_spec (by kernel_rfl))]; rfl
      exact sq_value _ rfl rfl (fa_run 30 1 1 pb rfl h0 (fa25_1 pb)) (Below.refl _ _) (by decide) hS RB rfl
    · obtain rfl := Option.some.inj hi
      have h0 : a'.tmps.getD 3 undef = _ := pre_of hpre 0 3 (by kernel_rfl) (by kernel_rfl)
      exact sq_value _ rfl rfl (load_run 3 3 pb (1) _ rfl h0 (ld3 (HC1.out w' ho))) (Below.refl _ _) (by decide) hS RB rfl
    · obtain rfl := Option.some.inj hi
      have h0 : a'.tmps.getD 4 undef = _ := pre_of hpre 1 4 (by kernel_rfl) (by kernel_rfl)
      refine sq_quiet 32 #[a'.tmps.getD 4 undef, .int .i64 1, .int .i64 16] rfl rfl (by kernel_rfl) (by decide) hS ?_
      rw [h0]
      exact (within_any _ _ _ w').mono (by rintro e u ⟨rfl, rfl⟩; exact ⟨_, rfl, Only.refl _ _, (fun _ h => h), by rw [HX.out]; rfl⟩)
    · obtain rfl := Option.some.inj hi
      have h0 := pre_of hpre 2 5 (by kernel_rfl) (by kernel_rfl)
      exact sq_value _ rfl rfl (rfl) (Below.refl _ _) (by decide) hS RB h0
    · obtain rfl := Option.some.inj hi
      have hgu : a'.tmps.getD 6 undef = _ := pre_of hpre 3 6 (by kernel_rfl) (by kernel_rfl)
      have h0 : a'.tmps.getD 1 undef = (.pointer (some ⟨pb, 0, none⟩)) := by rw [inv.old 1 (notDst_spec (by kernel_rfl))]; rfl
      exact sq_value _ rfl (wanted_of 3 6 true rfl (by kernel_rfl) hgu) (fa_run 30 2 1 pb rfl h0 (fa25_2 pb)) (Below.refl _ _) (by decide) hS RB rfl
    · obtain rfl := Option.some.inj hi
      have hgu : a'.tmps.getD 6 undef = _ := pre_of hpre 3 6 (by kernel_rfl) (by kernel_rfl)
      have h0 : a'.tmps.getD 7 undef = _ := pre_of hpre 4 7 (by kernel_rfl) (by kernel_rfl)
      exact sq_value _ rfl (wanted_of 3 6 true rfl (by kernel_rfl) hgu) (load_run 3 7 pb (2) _ rfl h0 (ld3 (HC2.out w' ho))) (Below.refl _ _) (by decide) hS RB rfl
    · obtain rfl := Option.some.inj hi
      have hgu : a'.tmps.getD 6 undef = _ := pre_of hpre 3 6 (by kernel_rfl) (by kernel_rfl)
      have h0 : a'.tmps.getD 8 undef = _ := pre_of hpre 5 8 (by kernel_rfl) (by kernel_rfl)
      refine sq_quiet 32 #[a'.tmps.getD 8 undef, .int .i64 1, .int .i64 1099511627776] rfl (wanted_of 3 6 true rfl (by kernel_rfl) hgu) (by kernel_rfl) (by decide) hS ?_
      rw [h0]
      exact (within_any _ _ _ w').mono (by rintro e u ⟨rfl, rfl⟩; exact ⟨_, rfl, Only.refl _ _, (fun _ h => h), by rw [HY.out]; rfl⟩)
    · obtain rfl := Option.some.inj hi
      have h0 : a'.tmps.getD 6 undef = _ := pre_of hpre 3 6 (by kernel_rfl) (by kernel_rfl)
      have h1 : a'.tmps.getD 9 undef = _ := pre_of hpre 6 9 (by kernel_rfl) (by kernel_rfl)
      exact sq_value _ rfl rfl (pick_run 6 true _ _ _ _ rfl h0 h1 rfl) (Below.refl _ _) (by decide) hS RB rfl
    · obtain rfl := Option.some.inj hi
      have h0 := pre_of hpre 7 10 (by kernel_rfl) (by kernel_rfl)
      exact sq_value _ rfl rfl (rfl) (Below.refl _ _) (by decide) hS RB h0
    · obtain rfl := Option.some.inj hi
      have hgu : a'.tmps.getD 11 undef = _ := pre_of hpre 8 11 (by kernel_rfl) (by kernel_rfl)
      have h0 : a'.tmps.getD 1 undef = (.pointer (some ⟨pb, 0, none⟩)) := by rw [inv.old 1 (notDst_spec (by kernel_rfl))]; rfl
      exact sq_value _ rfl (wanted_of 8 11 true rfl (by kernel_rfl) hgu) (load_run 30 1 pb (0) _ rfl h0 (ld25 (HC0.out w' ho))) (Below.refl _ _) (by decide) hS RB rfl
    · obtain rfl := Option.some.inj hi
      have hgu : a'.tmps.getD 11 undef = _ := pre_of hpre 8 11 (by kernel_rfl) (by kernel_rfl)
      have h0 : a'.tmps.getD 12 undef = _ := pre_of hpre 9 12 (by kernel_rfl) (by kernel_rfl)
      refine sq_quiet 33 #[a'.tmps.getD 12 undef] rfl (wanted_of 8 11 true rfl (by kernel_rfl) hgu) (by kernel_rfl) (by decide) hS ?_
      rw [h0]
      exact (HK.out w' ho).mono (by rintro e u ⟨rfl, h⟩; exact ⟨_, rfl, Only.of_below h _, (fun _ h => h), rfl⟩)
    · obtain rfl := Option.some.inj hi
      have h0 : a'.tmps.getD 11 undef = _ := pre_of hpre 8 11 (by kernel_rfl) (by kernel_rfl)
      have h1 : a'.tmps.getD 13 undef = _ := pre_of hpre 10 13 (by kernel_rfl) (by kernel_rfl)
      exact sq_value _ rfl rfl (pick_run 11 true _ _ _ _ rfl h0 h1 rfl) (Below.refl _ _) (by decide) hS RB rfl
    · obtain rfl := Option.some.inj hi
      have h0 := pre_of hpre 11 14 (by kernel_rfl) (by kernel_rfl)
      exact sq_value _ rfl rfl (rfl) (Below.refl _ _) (by decide) hS RB h0
    · obtain rfl := Option.some.inj hi
      have hgu : a'.tmps.getD 15 undef = _ := pre_of hpre 12 15 (by kernel_rfl) (by kernel_rfl)
      exact sq_skip rfl (unwanted_of 12 15 false rfl (by kernel_rfl) hgu) (by decide) hS rfl
    · obtain rfl := Option.some.inj hi
      have hgu : a'.tmps.getD 15 undef = _ := pre_of hpre 12 15 (by kernel_rfl) (by kernel_rfl)
      exact sq_skip rfl (unwanted_of 12 15 false rfl (by kernel_rfl) hgu) (by decide) hS rfl
    · obtain rfl := Option.some.inj hi
      have hgu : a'.tmps.getD 15 undef = _ := pre_of hpre 12 15 (by kernel_rfl) (by kernel_rfl)
      exact sq_skip rfl (unwanted_of 12 15 false rfl (by kernel_rfl) hgu) (by decide) hS rfl
    · obtain rfl := Option.some.inj hi
      have hgu : a'.tmps.getD 15 undef = _ := pre_of hpre 12 15 (by kernel_rfl) (by kernel_rfl)
      exact sq_skip rfl (unwanted_of 12 15 false rfl (by kernel_rfl) hgu) (by decide) hS rfl
    · obtain rfl := Option.some.inj hi
      have h0 : a'.tmps.getD 15 undef = _ := pre_of hpre 12 15 (by kernel_rfl) (by kernel_rfl)
      exact sq_value _ rfl rfl (pick_run 15 false _ _ _ _ rfl h0 rfl rfl) (Below.refl _ _) (by decide) hS RB rfl
    · obtain rfl := Option.some.inj hi
      have h0 := pre_of hpre 17 20 (by kernel_rfl) (by kernel_rfl)
      exact sq_value _ rfl rfl (rfl) (Below.refl _ _) (by decide) hS RB h0
  · intro a' w3 f inv hS hall hd
    have hk18 := hd 18 2 (by kernel_rfl)
    have ho : Only [] W w3 := inv.grow
    have hdf : a'.defers = [] := inv.defers
    have hsz : a'.tmps.size = 21 := inv.size
    have e := frame13 hsz (fun t ht => inv.old t (dstsIn_spec (ts := [2, 3, 4, 5, 6, 7, 8, 9, 10, 11, 12, 13, 14, 15, 16, 17, 18, 19, 20]) (by kernel_rfl) t ht))
    have hR := hS.done (fun c hc => hall c (show c < 19 by simp at hc <;> omega))
    clear inv hd hsz hall hS
    obtain ⟨tmps, defers⟩ := a'
    obtain rfl : defers = [] := hdf
    replace e : tmps = _ := e
    replace hk18 : tmps.getD 2 undef = (.bool false) := hk18
    generalize tmps.getD 2 undef = x2 at *
    generalize tmps.getD 3 undef = x3 at *
    generalize tmps.getD 4 undef = x4 at *
    generalize tmps.getD 5 undef = x5 at *
    generalize tmps.getD 6 undef = x6 at *
    generalize tmps.getD 7 undef = x7 at *
    generalize tmps.getD 8 undef = x8 at *
    generalize tmps.getD 9 undef = x9 at *
    generalize tmps.getD 10 undef = x10 at *
    generalize tmps.getD 11 undef = x11 at *
    generalize tmps.getD 12 undef = x12 at *
    generalize tmps.getD 13 undef = x13 at *
    generalize tmps.getD 14 undef = x14 at *
    generalize tmps.getD 15 undef = x15 at *
    generalize tmps.getD 16 undef = x16 at *
    generalize tmps.getD 17 undef = x17 at *
    generalize tmps.getD 18 undef = x18 at *
    generalize tmps.getD 19 undef = x19 at *
    generalize tmps.getD 20 undef = x20 at *
    simp only [Array.getD_eq_getD_getElem?, List.getElem?_toArray, List.getElem?_cons_succ, List.getElem?_cons_zero, Option.getD_some] at e
    subst e
    subst hk18
    go_wp2_with fail
    go_ret
    exact ⟨rfl, HFIN.out _ ho⟩
set_option maxHeartbeats 4000000 in
theorem rt4 (w : World) (CC : Array Value) (a2 a3 : Int) (nd : En) (sm : Bool) (pb : Nat) (W : World) (HPB : Hid (w.heap.size = pb)) (HW : Hid (w.alloc (.cells CC 30) = W)) (HB : Hid (Below w.heap.size w W)) (HC0 : Hid (∀ w', Only [] W w' → w'.heap[pb]? = some (.cells CC 30 (0, 0)) ∧ CC.size = 9)) (HC1 : Hid (∀ w', Only [] W w' → w'.cell? ⟨pb, 1, none⟩ = some (.int .i64 a2))) (HC2 : Hid (∀ w', Only [] W w' → w'.cell? ⟨pb, 2, none⟩ = some (.int .i64 a3))) (HX : Hid (decide ((1 : Int) ≤ a2 ∧ a2 ≤ 16) = true)) (HY : Hid (decide ((1 : Int) ≤ a3 ∧ a3 ≤ 1099511627776) = true)) (HK : Hid (∀ w', Only [] W w' → Calls Try.prog 33 #[.agg CC] w' fun e u => e = .returned (.bool true) ∧ Below w'.heap.size w' u)) (HN : Hid (∀ w', Only [] W w' → Calls Try.prog 35 #[.agg CC] w' fun e u => ∃ v, e = .returned v ∧ EnIs u v nd ∧ Below w'.heap.size w' u)) (HS : Hid (∀ w', Only [] W w' → ∀ v, EnIs w' v nd → Calls Try.prog 34 #[.agg CC, v] w' fun e u => e = .returned (.bool sm) ∧ Below w'.heap.size w' u)) :
    Calls Try.prog 25 #[.agg CC] w fun e w' => e = .returned (.bool sm) ∧ Below w.heap.size w w' := by
  have HFIN : Hid (∀ w', Only [] W w' → Below w.heap.size w w') := fun w' ho => HB.out.trans (ho.below HB.out.size (by simp))
  go_enter Try.func25, Try.ntmps25
  go_wp2_with fail
  rw [HW.out, HPB.out]
  have RB : ∀ k w w', Below w.heap.size w w' → (fun (_ : Nat) (_ : World) => True) k w → (fun (_ : Nat) (_ : World) => True) k w' := fun _ _ _ _ _ => trivial
  refine wp_region_st (rgD pb a2 a3 CC nd sm) (fun u u' => Only [] u u') (SeqS [] (fun (_ : Nat) (_ : World) => True)) (by kernel_rfl) (only_drew _ _) (only_trans _) (rgD_kept pb a2 a3 CC nd sm) (by kernel_rfl) (SeqS.start (trivial)) ?_ ?_
  · intro i o a' w' f hi inv hS hfi hfw hpre
    have ho : Only [] W w' := inv.grow
    have hlt : i < 19 := (Array.getElem?_eq_some_iff.1 hi).1
    obtain rfl|rfl|rfl|rfl|rfl|rfl|rfl|rfl|rfl|rfl|rfl|rfl|rfl|rfl|rfl|rfl|rfl|rfl|rfl : i = 0 ∨ i = 1 ∨ i = 2 ∨ i = 3 ∨ i = 4 ∨ i = 5 ∨ i = 6 ∨ i = 7 ∨ i = 8 ∨ i = 9 ∨ i = 10 ∨ i = 11 ∨ i = 12 ∨ i = 13 ∨ i = 14 ∨ i = 15 ∨ i = 16 ∨ i = 17 ∨ i = 18 := by omega
    · obtain rfl := Option.some.inj hi
      have h0 : a'.tmps.getD 1 undef = (.pointer (some ⟨pb, 0, none⟩)) := by rw [inv.old 1 (notDst_spec (by kernel_rfl))]; rfl
      exact sq_value _ rfl rfl (fa_run 30 1 1 pb rfl h0 (fa25_1 pb)) (Below.refl _ _) (by decide) hS RB rfl
    · obtain rfl := Option.some.inj hi
      have h0 : a'.tmps.getD 3 undef = _ := pre_of hpre 0 3 (by kernel_rfl) (by kernel_rfl)
      exact sq_value _ rfl rfl (load_run 3 3 pb (1) _ rfl h0 (ld3 (HC1.out w' ho))) (Below.refl _ _) (by decide) hS RB rfl
    · obtain rfl := Option.some.inj hi
      have h0 : a'.tmps.getD 4 undef = _ := pre_of hpre 1 4 (by kernel_rfl) (by kernel_rfl)
      refine sq_quiet 32 #[a'.tmps.getD 4 undef, .int .i64 1, .int .i64 16] rfl rfl (by kernel_rfl) (by decide) hS ?_
      rw [h0]
      exact (within_any _ _ _ w').mono (by rintro e u ⟨rfl, rfl⟩; exact ⟨_, rfl, Only.refl _ _, (fun _ h => h), by rw [HX.out]; rfl⟩)
    · obtain rfl := Option.some.inj hi
      have h0 := pre_of hpre 2 5 (by kernel_rfl) (by kernel_rfl)
      exact sq_value _ rfl rfl (rfl) (Below.refl _ _) (by decide) hS RB h0
    · obtain rfl := Option.some.inj hi
      have hgu : a'.tmps.getD 6 undef = _ := pre_of hpre 3 6 (by kernel_rfl) (by kernel_rfl)
      have h0 : a'.tmps.getD 1 undef = (.pointer (some ⟨pb, 0, none⟩)) := by rw [inv.old 1 (notDst_spec (by kernel_rfl))]; rfl
      exact sq_value _ rfl (wanted_of 3 6 true rfl (by kernel_rfl) hgu) (fa_run 30 2 1 pb rfl h0 (fa25_2 pb)) (Below.refl _ _) (by decide) hS RB rfl
    · obtain rfl := Option.some.inj hi
      have hgu : a'.tmps.getD 6 undef = _ := pre_of hpre 3 6 (by kernel_rfl) (by kernel_rfl)
      have h0 : a'.tmps.getD 7 undef = _ := pre_of hpre 4 7 (by kernel_rfl) (by kernel_rfl)
      exact sq_value _ rfl (wanted_of 3 6 true rfl (by kernel_rfl) hgu) (load_run 3 7 pb (2) _ rfl h0 (ld3 (HC2.out w' ho))) (Below.refl _ _) (by decide) hS RB rfl
    · obtain rfl := Option.some.inj hi
      have hgu : a'.tmps.getD 6 undef = _ := pre_of hpre 3 6 (by kernel_rfl) (by kernel_rfl)
      have h0 : a'.tmps.getD 8 undef = _ := pre_of hpre 5 8 (by kernel_rfl) (by kernel_rfl)
      refine sq_quiet 32 #[a'.tmps.getD 8 undef, .int .i64 1, .int .i64 1099511627776] rfl (wanted_of 3 6 true rfl (by kernel_rfl) hgu) (by kernel_rfl) (by decide) hS ?_
      rw [h0]
      exact (within_any _ _ _ w').mono (by rintro e u ⟨rfl, rfl⟩; exact ⟨_, rfl, Only.refl _ _, (fun _ h => h), by rw [HY.out]; rfl⟩)
    · obtain rfl := Option.some.inj hi
      have h0 : a'.tmps.getD 6 undef = _ := pre_of hpre 3 6 (by kernel_rfl) (by kernel_rfl)
      have h1 : a'.tmps.getD 9 undef = _ := pre_of hpre 6 9 (by kernel_rfl) (by kernel_rfl)
      exact sq_value _ rfl rfl (pick_run 6 true _ _ _ _ rfl h0 h1 rfl) (Below.refl _ _) (by decide) hS RB rfl
    · obtain rfl := Option.some.inj hi
      have h0 := pre_of hpre 7 10 (by kernel_rfl) (by kernel_rfl)
      exact sq_value _ rfl rfl (rfl) (Below.refl _ _) (by decide) hS RB h0
    · obtain rfl := Option.some.inj hi
      have hgu : a'.tmps.getD 11 undef = _ := pre_of hpre 8 11 (by kernel_rfl) (by kernel_rfl)
      have h0 : a'.tmps.getD 1 undef = (.pointer (some ⟨pb, 0, none⟩)) := by rw [inv.old 1 (notDst_spec (by kernel_rfl))]; rfl
      exact sq_value _ rfl (wanted_of 8 11 true rfl (by kernel_rfl) hgu) (load_run 30 1 pb (0) _ rfl h0 (ld25 (HC0.out w' ho))) (Below.refl _ _) (by decide) hS RB rfl
    · obtain rfl := Option.some.inj hi
      have hgu : a'.tmps.getD 11 undef = _ := pre_of hpre 8 11 (by kernel_rfl) (by kernel_rfl)
      have h0 : a'.tmps.getD 12 undef = _ := pre_of hpre 9 12 (by kernel_rfl) (by kernel_rfl)
      refine sq_quiet 33 #[a'.tmps.getD 12 undef] rfl (wanted_of 8 11 true rfl (by kernel_rfl) hgu) (by kernel_rfl) (by decide) hS ?_
      rw [h0]
      exact (HK.out w' ho).mono (by rintro e u ⟨rfl, h⟩; exact ⟨_, rfl, Only.of_below h _, (fun _ h => h), rfl⟩)
    · obtain rfl := Option.some.inj hi
      have h0 : a'.tmps.getD 11 undef = _ := pre_of hpre 8 11 (by kernel_rfl) (by kernel_rfl)
      have h1 : a'.tmps.getD 13 undef = _ := pre_of hpre 10 13 (by kernel_rfl) (by kernel_rfl)
      exact sq_value _ rfl rfl (pick_run 11 true _ _ _ _ rfl h0 h1 rfl) (Below.refl _ _) (by decide) hS RB rfl
    · obtain rfl := Option.some.inj hi
      have h0 := pre_of hpre 11 14 (by kernel_rfl) (by kernel_rfl)
      exact sq_value _ rfl rfl (rfl) (Below.refl _ _) (by decide) hS RB h0
    · obtain rfl := Option.some.inj hi
      have hgu : a'.tmps.getD 15 undef = _ := pre_of hpre 12 15 (by kernel_rfl) (by kernel_rfl)
      have h0 : a'.tmps.getD 1 undef = (.pointer (some ⟨pb, 0, none⟩)) := by rw [inv.old 1 (notDst_spec (by kernel_rfl))]; rfl
      exact sq_value _ rfl (wanted_of 12 15 true rfl (by kernel_rfl) hgu) (load_run 30 1 pb (0) _ rfl h0 (ld25 (HC0.out w' ho))) (Below.refl _ _) (by decide) hS RB rfl
    · obtain rfl := Option.some.inj hi
      have hgu : a'.tmps.getD 15 undef = _ := pre_of hpre 12 15 (by kernel_rfl) (by kernel_rfl)
      have h0 : a'.tmps.getD 1 undef = (.pointer (some ⟨pb, 0, none⟩)) := by rw [inv.old 1 (notDst_spec (by kernel_rfl))]; rfl
      exact sq_value _ rfl (wanted_of 12 15 true rfl (by kernel_rfl) hgu) (load_run 30 1 pb (0) _ rfl h0 (ld25 (HC0.out w' ho))) (Below.refl _ _) (by decide) hS RB rfl
    · obtain rfl := Option.some.inj hi
      have hgu : a'.tmps.getD 15 undef = _ := pre_of hpre 12 15 (by kernel_rfl) (by kernel_rfl)
      have h0 : a'.tmps.getD 17 undef = _ := pre_of hpre 14 17 (by kernel_rfl) (by kernel_rfl)
      refine sq_quiet 35 #[a'.tmps.getD 17 undef] rfl (wanted_of 12 15 true rfl (by kernel_rfl) hgu) (by kernel_rfl) (by decide) hS ?_
      rw [h0]
      exact (HN.out w' ho).mono (by rintro e u ⟨v, rfl, h1, h2⟩; exact ⟨_, rfl, Only.of_below h2 _, (fun _ h => h), h1⟩)
    · obtain rfl := Option.some.inj hi
      have hgu : a'.tmps.getD 15 undef = _ := pre_of hpre 12 15 (by kernel_rfl) (by kernel_rfl)
      have h0 : a'.tmps.getD 16 undef = _ := pre_of hpre 13 16 (by kernel_rfl) (by kernel_rfl)
      have h1 := pre_of hpre 15 18 (by kernel_rfl) (by kernel_rfl)
      refine sq_quiet 34 #[a'.tmps.getD 16 undef, a'.tmps.getD 18 undef] rfl (wanted_of 12 15 true rfl (by kernel_rfl) hgu) (by kernel_rfl) (by decide) hS ?_
      rw [h0]
      exact (HS.out w' ho _ h1).mono (by rintro e u ⟨rfl, h2⟩; exact ⟨_, rfl, Only.of_below h2 _, (fun _ h => h), rfl⟩)
    · obtain rfl := Option.some.inj hi
      have h0 : a'.tmps.getD 15 undef = _ := pre_of hpre 12 15 (by kernel_rfl) (by kernel_rfl)
      have h1 : a'.tmps.getD 19 undef = _ := pre_of hpre 16 19 (by kernel_rfl) (by kernel_rfl)
      exact sq_value _ rfl rfl (pick_run 15 true _ _ _ _ rfl h0 h1 rfl) (Below.refl _ _) (by decide) hS RB rfl
    · obtain rfl := Option.some.inj hi
      have h0 := pre_of hpre 17 20 (by kernel_rfl) (by kernel_rfl)
      exact sq_value _ rfl rfl (rfl) (Below.refl _ _) (by decide) hS RB h0
  · intro a' w3 f inv hS hall hd
    have hk18 := hd 18 2 (by kernel_rfl)
    have ho : Only [] W w3 := inv.grow
    have hdf : a'.defers = [] := inv.defers
    have hsz : a'.tmps.size = 21 := inv.size
    have e := frame13 hsz (fun t ht => inv.old t (dstsIn_spec (ts := [2, 3, 4, 5, 6, 7, 8, 9, 10, 11, 12, 13, 14, 15, 16, 17, 18, 19, 20]) (by kernel_rfl) t ht))
    have hR := hS.done (fun c hc => hall c (show c < 19 by simp at hc <;> omega))
    clear inv hd hsz hall hS
    obtain ⟨tmps, defers⟩ := a'
    obtain rfl : defers = [] := hdf
    replace e : tmps = _ := e
    replace hk18 : tmps.getD 2 undef = (.bool sm) := hk18
    generalize tmps.getD 2 undef = x2 at *
    generalize tmps.getD 3 undef = x3 at *
    generalize tmps.getD 4 undef = x4 at *
    generalize tmps.getD 5 undef = x5 at *
    generalize tmps.getD 6 undef = x6 at *
    generalize tmps.getD 7 undef = x7 at *
    generalize tmps.getD 8 undef = x8 at *
    generalize tmps.getD 9 undef = x9 at *
    generalize tmps.getD 10 undef = x10 at *
    generalize tmps.getD 11 undef = x11 at *
    generalize tmps.getD 12 undef = x12 at *
    generalize tmps.getD 13 undef = x13 at *
    generalize tmps.getD 14 undef = x14 at *
    generalize tmps.getD 15 undef = x15 at *
    generalize tmps.getD 16 undef = x16 at *
    generalize tmps.getD 17 undef = x17 at *
    generalize tmps.getD 18 undef = x18 at *
    generalize tmps.getD 19 undef = x19 at *
    generalize tmps.getD 20 undef = x20 at *
    simp only [Array.getD_eq_getD_getElem?, List.getElem?_toArray, List.getElem?_cons_succ, List.getElem?_cons_zero, Option.getD_some] at e
    subst e
    subst hk18
    go_wp2_with fail
    go_ret
    exact ⟨rfl, HFIN.out _ ho⟩
theorem Right_any (a : En) (va : Value) (w : World) (ha : EnIs w va a) :
    Calls Try.prog 25 #[va] w fun e w' => e = .returned (.bool (right a)) ∧ Below w.heap.size w w' := by
  have hA := ha
  obtain ⟨np, nc, vp, vc, q, c, rfl, -⟩ := ha
  have e0 : EnV a np nc vp vc q c = enC a.kind a.writer a.seq np a.name.length nc vp a.value.length vc a.who a.rights a.epoch q a.wraps.length c := rfl
  rw [e0] at hA ⊢
  have hsz : (enC a.kind a.writer a.seq np a.name.length nc vp a.value.length vc a.who a.rights a.epoch q a.wraps.length c).size = 9 := rfl
  have g1 : (enC a.kind a.writer a.seq np a.name.length nc vp a.value.length vc a.who a.rights a.epoch q a.wraps.length c)[1]? = some (.int .i64 a.writer) := rfl
  have g2 : (enC a.kind a.writer a.seq np a.name.length nc vp a.value.length vc a.who a.rights a.epoch q a.wraps.length c)[2]? = some (.int .i64 a.seq) := rfl
  generalize enC a.kind a.writer a.seq np a.name.length nc vp a.value.length vc a.who a.rights a.epoch q a.wraps.length c = CC at *
  clear e0
  have hb : Below w.heap.size w (w.alloc (.cells CC 30)) := bel_alloc (Nat.le_refl _) _
  have hn := heap_alloc_new w (.cells CC 30)
  have hW : ∀ w', Only [] (w.alloc (.cells CC 30)) w' → w'.heap[w.heap.size]? = some (.cells CC 30 (0, 0)) := fun w' ho => (ho.block _ (by simp) (by simp)).trans hn
  have hB : ∀ w', Only [] (w.alloc (.cells CC 30)) w' → Below w.heap.size w w' := fun w' ho => hb.trans (ho.below hb.size (by simp))
  have c1 : ∀ w', Only [] (w.alloc (.cells CC 30)) w' → w'.cell? ⟨w.heap.size, 1, none⟩ = some (.int .i64 a.writer) := fun w' ho => by rw [cell_of_row _ _ _ _ _ _ (hW w' ho)]; exact g1
  have c2 : ∀ w', Only [] (w.alloc (.cells CC 30)) w' → w'.cell? ⟨w.heap.size, 2, none⟩ = some (.int .i64 a.seq) := fun w' ho => by rw [cell_of_row _ _ _ _ _ _ (hW w' ho)]; exact g2
  unfold right
  cases hx : decide ((1 : Int) ≤ a.writer ∧ a.writer ≤ 16) with
  | false => exact rt1 w CC _ _ _ rfl rfl hb c1 hx
  | true =>
    cases hy : decide ((1 : Int) ≤ a.seq ∧ a.seq ≤ 1099511627776) with
    | false => exact rt2 w CC _ _ _ _ rfl rfl hb c1 c2 hx hy
    | true =>
      have hk : ∀ w', Only [] (w.alloc (.cells CC 30)) w' → Calls Try.prog 33 #[.agg CC] w' fun e u => e = .returned (.bool (byKind a)) ∧ Below w'.heap.size w' u := fun w' ho => byKind_any a _ w' (hA.below (hB w' ho))
      cases hz : byKind a with
      | false =>
        rw [hz] at hk
        exact rt3 w CC _ _ _ _ rfl rfl hb (fun w' ho => ⟨hW w' ho, hsz⟩) c1 c2 hx hy hk
      | true =>
        rw [hz] at hk
        exact rt4 w CC _ _ (named a) (same a (named a)) _ _ rfl rfl hb (fun w' ho => ⟨hW w' ho, hsz⟩) c1 c2 hx hy hk (fun w' ho => named_any a _ w' (hA.below (hB w' ho))) (fun w' ho v hv => Same_any a (named a) _ v w' (hA.below (hB w' ho)) hv)
end Go.Proofs.Ytigfiopmochliaa.E9
