/- The contract of the statements' own 'same', where it holds. -/
import Derived.Test.YtmlnbbggfjgacaaP10Fo0
import Derived.Test.YtmlnbbggfjgacaaMgG
namespace Go.Proofs.Ytmlnbbggfjgacaa.P10
open Go.RowKit C8 E9
theorem fa32_2 (b : Nat) (w : World) : (Instr.fieldAt 32 (.pointer (some ⟨b, 0, none⟩)) 2).run Try.prog w = .ok (.pointer (some ⟨b, 2, none⟩)) w := by simp [go_sem]
theorem ia30o_run {o : Oper} {a' : Act} {w' : World} (s u : Tmp) (b d k : Nat) (ho : o.op = .indexAddr 30 (.tmp s) (.tmp u)) (h0 : a'.tmps.getD s undef = .pointer (some ⟨b, d, none⟩)) (h1 : a'.tmps.getD u undef = .int .i64 (k : Int)) (hk : (k : Int) < 17) : (execOp a'.eval o).run Try.prog w' = .ok (.value (.pointer (some ⟨b, d + k, none⟩))) w' := by
  have e0 : a'.eval (.tmp s) = .pointer (some ⟨b, d, none⟩) := h0
  have e1 : a'.eval (.tmp u) = .int .i64 (k : Int) := h1
  unfold execOp
  simp only [ho]
  rw [e0, e1]
  have h2 : (0 : Int) ≤ (k : Int) := by omega
  simp [go_sem, hk, h2]
def sm6 (CP : Array Value) (b3 k : Nat) (r : Int) : Nat → Value → World → Prop
  | 0 => IsV (.agg CP)
  | 1 => IsV (.int .i64 (k : Int))
  | 2 => IsV (.int .i64 r)
  | 3 => IsV (.int .i64 (k : Int))
  | 4 => IsV (.pointer (some ⟨b3, 2, none⟩))
  | 5 => IsV (.pointer (some ⟨b3, 2 + k, none⟩))
  | 6 => IsV (.int .i64 r)
  | 7 => IsV (.bool false)
  | _ => fun _ _ => True
theorem sm6_kept (CP : Array Value) (b3 k : Nat) (r : Int) : ∀ i v w w', sm6 CP b3 k r i v w → Only [] w w' → sm6 CP b3 k r i v w'
  | 0, _, _, _, h, _ => h
  | 1, _, _, _, h, _ => h
  | 2, _, _, _, h, _ => h
  | 3, _, _, _, h, _ => h
  | 4, _, _, _, h, _ => h
  | 5, _, _, _, h, _ => h
  | 6, _, _, _, h, _ => h
  | 7, _, _, _, h, _ => h
  | _ + 8, _, _, _, _, _ => trivial
theorem frame12_6 {A F : Array Value} (hs : A.size = 35) (h : ∀ t, [27, 28, 29, 30, 31, 32, 33, 34].contains t = false → A.getD t undef = F.getD t undef) : A = #[F.getD 0 undef, F.getD 1 undef, F.getD 2 undef, F.getD 3 undef, F.getD 4 undef, F.getD 5 undef, F.getD 6 undef, F.getD 7 undef, F.getD 8 undef, F.getD 9 undef, F.getD 10 undef, F.getD 11 undef, F.getD 12 undef, F.getD 13 undef, F.getD 14 undef, F.getD 15 undef, F.getD 16 undef, F.getD 17 undef, F.getD 18 undef, F.getD 19 undef, F.getD 20 undef, F.getD 21 undef, F.getD 22 undef, F.getD 23 undef, F.getD 24 undef, F.getD 25 undef, F.getD 26 undef, A.getD 27 undef, A.getD 28 undef, A.getD 29 undef, A.getD 30 undef, A.getD 31 undef, A.getD 32 undef, A.getD 33 undef, A.getD 34 undef] := by
  rw [← h 0 (by decide), ← h 1 (by decide), ← h 2 (by decide), ← h 3 (by decide), ← h 4 (by decide), ← h 5 (by decide), ← h 6 (by decide), ← h 7 (by decide), ← h 8 (by decide), ← h 9 (by decide), ← h 10 (by decide), ← h 11 (by decide), ← h 12 (by decide), ← h 13 (by decide), ← h 14 (by decide), ← h 15 (by decide), ← h 16 (by decide), ← h 17 (by decide), ← h 18 (by decide), ← h 19 (by decide), ← h 20 (by decide), ← h 21 (by decide), ← h 22 (by decide), ← h 23 (by decide), ← h 24 (by decide), ← h 25 (by decide), ← h 26 (by decide)]
  refine Array.ext (by simp [hs]) (fun i h1 h2 => ?_)
  have e : A[i] = A.getD i undef := by simp [h1]
  rw [e]
  rw [hs] at h1
  clear e h hs
  match i, h1 with
  | 0, _ => rfl
  | 1, _ => rfl
  | 2, _ => rfl
  | 3, _ => rfl
  | 4, _ => rfl
  | 5, _ => rfl
  | 6, _ => rfl
  | 7, _ => rfl
  | 8, _ => rfl
  | 9, _ => rfl
  | 10, _ => rfl
  | 11, _ => rfl
  | 12, _ => rfl
  | 13, _ => rfl
  | 14, _ => rfl
  | 15, _ => rfl
  | 16, _ => rfl
  | 17, _ => rfl
  | 18, _ => rfl
  | 19, _ => rfl
  | 20, _ => rfl
  | 21, _ => rfl
  | 22, _ => rfl
  | 23, _ => rfl
  | 24, _ => rfl
  | 25, _ => rfl
  | 26, _ => rfl
  | 27, _ => rfl
  | 28, _ => rfl
  | 29, _ => rfl
  | 30, _ => rfl
  | 31, _ => rfl
  | 32, _ => rfl
  | 33, _ => rfl
  | 34, _ => rfl
  | _ + 35, h => exact absurd h (by omega)
/-- A policy and the document's in the boxes that a call began with. -/
structure SB (w W : World) (f e : Int) (q : Option Addr) (n c : Nat) (R : Int → Int) : Prop where
  bel : Below w.heap.size w W
  box : W.heap[w.heap.size]? = some (.cells #[.int .i64 f, .int .i64 e, .slice q n c] 26 (0, 0))
  pol : RpAt W (w.heap.size + 1) f e R
  told : Told4 0 W f e q n c R
section
variable {w W W' : World} {f e : Int} {q : Option Addr} {n c : Nat} {R : Int → Int}
theorem SB.start (h : Told4 0 w f e q n c R) : SB w ((w.alloc (.cells #[.int .i64 f, .int .i64 e, .slice q n c] 26)).alloc (.cells (RpL f e R).toArray 32)) f e q n c R := by
  have hb : Below w.heap.size w ((w.alloc (.cells #[.int .i64 f, .int .i64 e, .slice q n c] 26)).alloc (.cells (RpL f e R).toArray 32)) := (bel_alloc (Nat.le_refl _) _).trans (bel_alloc (by simp) _)
  exact ⟨hb, heap_alloc2_old w _ _, heap_alloc2_new w _ _, h.below hb⟩
theorem SB.step (h : SB w W f e q n c R) (hb : Below W.heap.size W W') : SB w W' f e q n c R :=
  ⟨h.bel.trans (bel_le hb h.bel.size), (hb.block _ (Array.getElem?_eq_some_iff.1 h.box).1).trans h.box, h.pol.below hb, h.told.below hb⟩
theorem SB.cells (h : SB w W f e q n c R) : W.cell? ⟨w.heap.size, 0, none⟩ = some (.int .i64 f) ∧ W.cell? ⟨w.heap.size, 1, none⟩ = some (.int .i64 e) ∧ W.cell? ⟨w.heap.size, 2, none⟩ = some (.slice q n c) := by
  refine ⟨?_, ?_, ?_⟩ <;> (rw [cell_of_row _ _ _ _ _ _ h.box]; rfl)
end
set_option maxRecDepth 20000 in
set_option maxHeartbeats 8000000 in
theorem same_any (f e : Int) (q : Option Addr) (n c : Nat) (R : Int → Int) (w : World) (hT : Told4 0 w f e q n c R) : Calls Try.prog 12 #[.agg #[.int .i64 f, .int .i64 e, .slice q n c], .agg (RpL f e R).toArray] w fun x w' => x = .returned (.bool true) ∧ Below w.heap.size w w' := by
  have HS0 : Hid (SB w ((w.alloc (.cells #[.int .i64 f, .int .i64 e, .slice q n c] 26)).alloc (.cells (RpL f e R).toArray 32)) f e q n c R) := SB.start hT
  have HC20 : ∀ W, Hid (SB w W f e q n c R) → Calls Try.prog 20 #[.agg #[.int .i64 f, .int .i64 e, .slice q n c]] W fun x w' => x = .returned (.bool true) ∧ Hid (SB w w' f e q n c R) := fun W h => by
    obtain ⟨p, h1, h2, h3, h4, h5⟩ := h.out.told.is
    have := pRight_any p _ W h1
    rw [h2] at this
    exact this.mono (by rintro x w' ⟨rfl, hb⟩; exact ⟨rfl, h.out.step hb⟩)
  clear hT
  obtain ⟨u0, u1, u2⟩ := HS0.out.cells
  have p0 := HS0.out.pol.cf
  have p1 := HS0.out.pol.ce
  obtain ⟨L, HC⟩ : ∃ L, Hid ((RpL f e R).toArray = L) := ⟨_, rfl⟩
  rw [HC.out] at HS0 u0 u1 u2 p0 p1
  rw [HC.out]
  go_enter Try.func12, Try.ntmps12
  go_wp2_with (first | (go_at_call 20; refine (HC20 _ HS0).mono ?_; rintro x w1 ⟨rfl, HS1⟩))
  clear HS0 u0 u1 u2 p0 p1 HC20
  go_loopw [5] (fun i wr => ∃ k : Nat, 1 ≤ k ∧ k ≤ 17 ∧ i = .int .i64 k ∧ Hid (SB w wr f e q n c R)) (fun i _ => 17 - (intOf i).toNat)
  case atStart => exact ⟨1, by omega, by omega, rfl, HS1⟩
  case round =>
    obtain ⟨k, hk1, hk2, rfl, HK⟩ := hrel
    clear HS1
    have k0 : (0 : Int) ≤ (k : Int) := by omega
    by_cases hk3 : k ≤ 16
    · have k1 : (k : Int) ≤ 16 := by omega
      have k17 : (k : Int) < 17 := by omega
      obtain ⟨CP, HCP⟩ : ∃ CP : Array Value, Hid (#[.int .i64 f, .int .i64 e, .slice q n c] = CP) := ⟨_, rfl⟩
      obtain ⟨r, HRR⟩ : ∃ r, Hid (R k = r) := ⟨_, rfl⟩
      have HBK : Hid (∀ w', Only [] wr w' → Below wr.heap.size wr w') := fun w' ho => ho.below (Nat.le_refl _) (by simp)
      have HKP : Hid (∀ w', Only [] wr w' → SB w w' f e q n c R) := fun w' ho => HK.out.step (HBK.out w' ho)
      have HR2 : Hid (∀ w', Only [] wr w' → w'.heap[w.heap.size]? = some (.cells CP 26 (0, 0)) ∧ CP.size = 3) := by
        rw [← HCP.out]
        exact fun w' ho => ⟨(HKP.out w' ho).box, rfl⟩
      have HR3 : Hid (∀ w', Only [] wr w' → w'.cell? ⟨w.heap.size + 1, 2 + k, none⟩ = some (.int .i64 r)) := by
        rw [← HRR.out]
        exact fun w' ho => (HKP.out w' ho).pol.atk k hk3
      have HC21 : Hid (∀ w', Only [] wr w' → Calls Try.prog 21 #[.agg CP, .int .i64 (k : Int)] w' fun z u => z = .returned (.int .i64 r) ∧ Below w'.heap.size w' u) := by
        rw [← HCP.out, ← HRR.out]
        exact fun w' ho => (HKP.out w' ho).told.rights (k : Int)
      clear HK HBK HCP HRR
      go_wp2_with fail
      have RB : ∀ k w w', Below w.heap.size w w' → (fun (_ : Nat) (_ : World) => True) k w → (fun (_ : Nat) (_ : World) => True) k w' := fun _ _ _ _ _ => trivial
      refine wp_region_st (sm6 CP (w.heap.size + 1) k r) (fun u u' => Only [] u u') (SeqS [] (fun (_ : Nat) (_ : World) => True)) (by kernel_rfl) (only_drew _ _) (only_trans _) (sm6_kept CP (w.heap.size + 1) k r) (by kernel_rfl) (SeqS.start (trivial)) ?_ ?_
      · intro i o a' w' f hi inv hS hfi hfw hpre
        have ho : Only [] wr w' := inv.grow
        have hlt : i < 8 := (Array.getElem?_eq_some_iff.1 hi).1
        obtain rfl|rfl|rfl|rfl|rfl|rfl|rfl|rfl : i = 0 ∨ i = 1 ∨ i = 2 ∨ i = 3 ∨ i = 4 ∨ i = 5 ∨ i = 6 ∨ i = 7 := by omega
        · obtain rfl := Option.some.inj hi
          have h0 : a'.tmps.getD 2 undef = (.pointer (some ⟨w.heap.size, 0, none⟩)) := by rw [inv.old 2 (notDst_spec (by kernel_rfl))]; rfl
          exact sq_value _ rfl rfl (load_run 26 2 w.heap.size (0) _ rfl h0 (ld26 ((HR2.out w' ho)))) (Below.refl _ _) (by decide) hS RB rfl
        · obtain rfl := Option.some.inj hi
          exact sq_value _ rfl rfl rfl (Below.refl _ _) (by decide) hS RB (by show a'.tmps.getD 5 undef = _; rw [inv.old 5 (notDst_spec (by kernel_rfl))]; rfl)
        · obtain rfl := Option.some.inj hi
          have h0 : a'.tmps.getD 27 undef = _ := pre_of hpre 0 27 (by kernel_rfl) (by kernel_rfl)
          have h1 : a'.tmps.getD 28 undef = _ := pre_of hpre 1 28 (by kernel_rfl) (by kernel_rfl)
          refine sq_quiet 21 #[a'.tmps.getD 27 undef, a'.tmps.getD 28 undef] rfl rfl (by kernel_rfl) (by decide) hS ?_
          rw [h0, h1]
          exact (HC21.out w' ho).mono (by rintro z u ⟨rfl, h2⟩; exact ⟨_, rfl, Only.of_below h2 _, (fun _ h => h), rfl⟩)
        · obtain rfl := Option.some.inj hi
          exact sq_value _ rfl rfl rfl (Below.refl _ _) (by decide) hS RB (by show a'.tmps.getD 5 undef = _; rw [inv.old 5 (notDst_spec (by kernel_rfl))]; rfl)
        · obtain rfl := Option.some.inj hi
          have h0 : a'.tmps.getD 3 undef = (.pointer (some ⟨(w.heap.size + 1), 0, none⟩)) := by rw [inv.old 3 (notDst_spec (by kernel_rfl))]; rfl
          exact sq_value _ rfl rfl (fa_run 32 2 3 (w.heap.size + 1) rfl h0 (fa32_2 (w.heap.size + 1))) (Below.refl _ _) (by decide) hS RB rfl
        · obtain rfl := Option.some.inj hi
          have h0 : a'.tmps.getD 31 undef = _ := pre_of hpre 4 31 (by kernel_rfl) (by kernel_rfl)
          have h1 : a'.tmps.getD 30 undef = _ := pre_of hpre 3 30 (by kernel_rfl) (by kernel_rfl)
          exact sq_value _ rfl rfl (ia30o_run 31 30 (w.heap.size + 1) 2 k rfl h0 h1 (by omega)) (Below.refl _ _) (by decide) hS RB rfl
        · obtain rfl := Option.some.inj hi
          have h0 : a'.tmps.getD 32 undef = _ := pre_of hpre 5 32 (by kernel_rfl) (by kernel_rfl)
          exact sq_value _ rfl rfl (load_run 3 32 (w.heap.size + 1) (2 + k) _ rfl h0 (ld3 ((HR3.out w' ho)))) (Below.refl _ _) (by decide) hS RB rfl
        · obtain rfl := Option.some.inj hi
          have h0 : a'.tmps.getD 29 undef = _ := pre_of hpre 2 29 (by kernel_rfl) (by kernel_rfl)
          have h1 : a'.tmps.getD 33 undef = _ := pre_of hpre 6 33 (by kernel_rfl) (by kernel_rfl)
          exact sq_value _ rfl rfl (neqN_run 29 33 _ _ rfl h0 h1) (Below.refl _ _) (by decide) hS RB (by show Value.bool _ = _; simp)
      · intro a' w9 f inv hS hall hd
        have hk7 := hd 7 34 (by kernel_rfl)
        have ho : Only [] wr w9 := inv.grow
        have hdf : a'.defers = [] := inv.defers
        have hsz : a'.tmps.size = 35 := inv.size
        have e := frame12_6 hsz (fun t ht => inv.old t (dstsIn_spec (ts := [27, 28, 29, 30, 31, 32, 33, 34]) (by kernel_rfl) t ht))
        have hR := hS.done (fun c hc => hall c (show c < 8 by simp at hc <;> omega))
        clear inv hd hsz hall hS
        obtain ⟨tmps, defers⟩ := a'
        obtain rfl : defers = [] := hdf
        replace e : tmps = _ := e
        replace hk7 : tmps.getD 34 undef = (.bool false) := hk7
        generalize tmps.getD 27 undef = x27 at *
        generalize tmps.getD 28 undef = x28 at *
        generalize tmps.getD 29 undef = x29 at *
        generalize tmps.getD 30 undef = x30 at *
        generalize tmps.getD 31 undef = x31 at *
        generalize tmps.getD 32 undef = x32 at *
        generalize tmps.getD 33 undef = x33 at *
        generalize tmps.getD 34 undef = x34 at *
        simp only [Array.getD_eq_getD_getElem?, List.getElem?_toArray, List.getElem?_cons_succ, List.getElem?_cons_zero, Option.getD_some] at e
        subst e
        subst hk7
        go_wp2_with fail
        refine ⟨⟨k + 1, by omega, by omega, by simp, HKP.out _ ho⟩, ?_⟩
        simp only [intOf]
        omega
    · have k1 : ¬ (k : Int) ≤ 16 := by omega
      have HBW : Hid (Below w.heap.size w wr) := HK.out.bel
      clear HK
      go_wp2_with fail
      go_ret
      exact ⟨rfl, HBW.out⟩
end Go.Proofs.Ytmlnbbggfjgacaa.P10
