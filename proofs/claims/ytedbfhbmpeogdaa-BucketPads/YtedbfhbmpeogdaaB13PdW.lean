/- The walk of BucketPads. -/
import Derived.Test.YtedbfhbmpeogdaaB13Anc
import Derived.Test.YtedbfhbmpeogdaaB13RP
import Derived.Test.YtedbfhbmpeogdaaB13St
import Derived.Test.YtedbfhbmpeogdaaC8St
namespace Go.Proofs.Ytedbfhbmpeogdaa.C8
open Go.RowKit
theorem eqlE_run {o : Oper} {a' : Act} {w' : World} (s : Tmp) (x y : Int) (ho : o.op = .binOp .eql 24 (.tmp s) (.const (.int .i64 y)) 24) (h0 : a'.tmps.getD s undef = .int .i64 x) : (execOp a'.eval o).run Try.prog w' = .ok (.value (.bool (x == y))) w' := by
  have he : a'.eval (.tmp s) = .int .i64 x := h0
  have hf : a'.eval (.const (.int .i64 y)) = .int .i64 y := rfl
  unfold execOp
  simp only [ho]
  rw [he, hf]
  simp [go_sem]
theorem eqlS_run {o : Oper} {a' : Act} {w' : World} (s t : Tmp) (x y : ByteArray) (ho : o.op = .binOp .eql 9 (.tmp s) (.tmp t) 9) (h0 : a'.tmps.getD s undef = .string x) (h1 : a'.tmps.getD t undef = .string y) : (execOp a'.eval o).run Try.prog w' = .ok (.value (.bool (x.toList == y.toList))) w' := by
  have he : a'.eval (.tmp s) = .string x := h0
  have hc : a'.eval (.tmp t) = .string y := h1
  unfold execOp
  simp only [ho]
  rw [he, hc]
  simp [go_sem]
theorem srcV_of {w : World} {v : Value} {l : List Nat} (h : Src w v l) : SrcV [] l v w := ⟨h, fun _ b _ hm => by cases hm⟩
def pd9 (pd tx : List Nat) : Nat → Value → World → Prop
  | 0 => IsV (.int .i64 0)
  | 1 => IsV (.bool true)
  | 2 => IsV (.bool true)
  | 3 => SrcV [] pd
  | 4 => IsV (.string (strB pd))
  | 5 => SrcV [] tx
  | 6 => SrcV [] pd
  | 7 => IsV (.string (strB pd))
  | 8 => IsV (.bool true)
  | 9 => IsV (.bool true)
  | 10 => IsV (.bool true)
  | 11 => IsV (.int .i64 0)
  | 12 => IsV (.bool true)
  | 13 => IsV (.bool true)
  | 14 => IsV (.bool true)
  | 15 => SrcV [] tx
  | 16 => IsV (.string (strB tx))
  | 17 => SrcV [] tx
  | 18 => IsV (.string (strB tx))
  | 19 => IsV (.bool true)
  | 20 => IsV (.bool true)
  | 21 => IsV (.bool true)
  | _ => fun _ _ => True
theorem pd9_kept (pd tx : List Nat) : ∀ i v w w', pd9 pd tx i v w → Only [] w w' → pd9 pd tx i v w'
  | 0, _, _, _, h, _ => h
  | 1, _, _, _, h, _ => h
  | 2, _, _, _, h, _ => h
  | 3, _, _, _, h, ho => SrcV.kept h ho
  | 4, _, _, _, h, _ => h
  | 5, _, _, _, h, ho => SrcV.kept h ho
  | 6, _, _, _, h, ho => SrcV.kept h ho
  | 7, _, _, _, h, _ => h
  | 8, _, _, _, h, _ => h
  | 9, _, _, _, h, _ => h
  | 10, _, _, _, h, _ => h
  | 11, _, _, _, h, _ => h
  | 12, _, _, _, h, _ => h
  | 13, _, _, _, h, _ => h
  | 14, _, _, _, h, _ => h
  | 15, _, _, _, h, ho => SrcV.kept h ho
  | 16, _, _, _, h, _ => h
  | 17, _, _, _, h, ho => SrcV.kept h ho
  | 18, _, _, _, h, _ => h
  | 19, _, _, _, h, _ => h
  | 20, _, _, _, h, _ => h
  | 21, _, _, _, h, _ => h
  | _ + 22, _, _, _, _, _ => trivial
theorem frame3_9 {A F : Array Value} (hs : A.size = 53) (h : ∀ t, [2, 32, 33, 34, 35, 36, 37, 38, 39, 40, 41, 42, 43, 44, 45, 46, 47, 48, 49, 50, 51, 52].contains t = false → A.getD t undef = F.getD t undef) : A = #[F.getD 0 undef, F.getD 1 undef, A.getD 2 undef, F.getD 3 undef, F.getD 4 undef, F.getD 5 undef, F.getD 6 undef, F.getD 7 undef, F.getD 8 undef, F.getD 9 undef, F.getD 10 undef, F.getD 11 undef, F.getD 12 undef, F.getD 13 undef, F.getD 14 undef, F.getD 15 undef, F.getD 16 undef, F.getD 17 undef, F.getD 18 undef, F.getD 19 undef, F.getD 20 undef, F.getD 21 undef, F.getD 22 undef, F.getD 23 undef, F.getD 24 undef, F.getD 25 undef, F.getD 26 undef, F.getD 27 undef, F.getD 28 undef, F.getD 29 undef, F.getD 30 undef, F.getD 31 undef, A.getD 32 undef, A.getD 33 undef, A.getD 34 undef, A.getD 35 undef, A.getD 36 undef, A.getD 37 undef, A.getD 38 undef, A.getD 39 undef, A.getD 40 undef, A.getD 41 undef, A.getD 42 undef, A.getD 43 undef, A.getD 44 undef, A.getD 45 undef, A.getD 46 undef, A.getD 47 undef, A.getD 48 undef, A.getD 49 undef, A.getD 50 undef, A.getD 51 undef, A.getD 52 undef] := by
  rw [← h 0 (by decide), ← h 1 (by decide), ← h 3 (by decide), ← h 4 (by decide), ← h 5 (by decide), ← h 6 (by decide), ← h 7 (by decide), ← h 8 (by decide), ← h 9 (by decide), ← h 10 (by decide), ← h 11 (by decide), ← h 12 (by decide), ← h 13 (by decide), ← h 14 (by decide), ← h 15 (by decide), ← h 16 (by decide), ← h 17 (by decide), ← h 18 (by decide), ← h 19 (by decide), ← h 20 (by decide), ← h 21 (by decide), ← h 22 (by decide), ← h 23 (by decide), ← h 24 (by decide), ← h 25 (by decide), ← h 26 (by decide), ← h 27 (by decide), ← h 28 (by decide), ← h 29 (by decide), ← h 30 (by decide), ← h 31 (by decide)]
  refine Array.ext (by simp [hs]) (fun i h1 h2 => ?_)
  have e : A[i] = A.getD i undef := by simp [h1]
  rw [e]
  rw [hs] at h1
  clear e h hs
  match i, h1 with
  | 0, _ => rfl
  | 1, _ => rfl
  | 2, _ => rfl
  | 3, _ => rfl
  | 4, _ => rfl
  | 5, _ => rfl
  | 6, _ => rfl
  | 7, _ => rfl
  | 8, _ => rfl
  | 9, _ => rfl
  | 10, _ => rfl
  | 11, _ => rfl
  | 12, _ => rfl
  | 13, _ => rfl
  | 14, _ => rfl
  | 15, _ => rfl
  | 16, _ => rfl
  | 17, _ => rfl
  | 18, _ => rfl
  | 19, _ => rfl
  | 20, _ => rfl
  | 21, _ => rfl
  | 22, _ => rfl
  | 23, _ => rfl
  | 24, _ => rfl
  | 25, _ => rfl
  | 26, _ => rfl
  | 27, _ => rfl
  | 28, _ => rfl
  | 29, _ => rfl
  | 30, _ => rfl
  | 31, _ => rfl
  | 32, _ => rfl
  | 33, _ => rfl
  | 34, _ => rfl
  | 35, _ => rfl
  | 36, _ => rfl
  | 37, _ => rfl
  | 38, _ => rfl
  | 39, _ => rfl
  | 40, _ => rfl
  | 41, _ => rfl
  | 42, _ => rfl
  | 43, _ => rfl
  | 44, _ => rfl
  | 45, _ => rfl
  | 46, _ => rfl
  | 47, _ => rfl
  | 48, _ => rfl
  | 49, _ => rfl
  | 50, _ => rfl
  | 51, _ => rfl
  | 52, _ => rfl
  | _ + 53, h => exact absurd h (by omega)
theorem pads_long (p : Option Addr) (n c : Nat) (w : World) (h : 2046 < n) (hn : n ≤ 9223372036854775807) :
    Calls Try.prog 3 #[.slice p n c] w fun e w' => e = .returned (.bool true) ∧ Below w.heap.size w w' := by
  by_cases h1 : 2500 < n
  · have n1 : (2500 : Int) < (n : Int) := by omega
    go_enter Try.func3, Try.ntmps3
    go_wp2_with fail
    refine (anchor_any _).mono ?_
    rintro e w0 ⟨rfl, b0⟩
    have B0 : Hid (Below w.heap.size w w0) := b0
    clear b0
    go_wp2_with fail
    go_ret
    exact ⟨rfl, B0.out⟩
  · have n1 : (2046 : Int) < (n : Int) := by omega
    have n2 : (n : Int) ≤ 2500 := by omega
    go_enter Try.func3, Try.ntmps3
    go_wp2_with fail
    refine (anchor_any _).mono ?_
    rintro e w0 ⟨rfl, b0⟩
    have B0 : Hid (Below w.heap.size w w0) := b0
    clear b0
    go_wp2_with fail
    refine (Pad_bad p n c w0 h hn).mono ?_
    rintro e w1 ⟨rfl, hw⟩
    rw [hw]
    clear hw w1
    go_wp2_with fail
    go_ret
    exact ⟨rfl, B0.out⟩
set_option maxHeartbeats 4000000 in
theorem pads_main {l : List Nat} (p : Option Addr) (n c : Nat) (w : World) (hs : Src w (.slice p n c) l) (hl : l.length = n) (hn : n ≤ 2046) :
    Calls Try.prog 3 #[.slice p n c] w fun e w' => e = .returned (.bool true) ∧ Below w.heap.size w w' := by
  have n1 : (n : Int) ≤ 2046 := by omega
  have HS : Hid (Src w (.slice p n c) l) := hs
  have HSP : Hid (∀ x ∈ padL l, x < 256) := padL_lt (by omega) hs.small
  have HPD : Hid (∀ W, Below w.heap.size w W → Calls Try.prog 10 #[.slice p n c] W fun e w' => ∃ g, e = .returned (.tuple #[.slice (some ⟨g, 0, none⟩) (bsz n) (bsz n), .int .i64 0]) ∧ Src w' (.slice (some ⟨g, 0, none⟩) (bsz n) (bsz n)) (padL l) ∧ Below w.heap.size w w') := fun W h =>
    (Pad_ok p n c W (hs.below h) hl hn).mono fun e w' ⟨he, ho, hb⟩ => ⟨_, he, Src.own HSP.out ho, h.trans (hb.mono h.size)⟩
  have HST : Hid (∀ W v, Src W v (padL l) → Calls Try.prog 11 #[v] W fun e w' => ∃ q c1, e = .returned (.tuple #[.slice q n c1, .int .i64 0]) ∧ Src w' (.slice q n c1) l ∧ Below W.heap.size W w') := fun W v h =>
    (Strip_ok v W h (right_pad (by omega))).mono fun e w' ⟨u, he, ho, hb⟩ => by
      rw [cnt_pad, txt_pad, hl] at ho
      have hsu := Src.own hs.small ho
      obtain ⟨q, c1, rfl⟩ := own_slice ho
      exact ⟨q, c1, he, hsu, hb⟩
  have HRA : Hid (∀ W v, Src W v l → Calls Try.prog 12 #[v] W fun e u => ∃ v', e = .returned v' ∧ Src u v' (padL l) ∧ Below W.heap.size W u) := fun W v hv => by
    obtain ⟨a, c', rfl, -⟩ := hv.slice
    exact (RPad_any a l.length c' W hv rfl (by omega)).mono fun e w' ⟨u, he, ho, hb⟩ => ⟨u, he, Src.own HSP.out ho, hb⟩
  generalize bsz n = s at *
  clear hs hl hn HSP
  go_enter Try.func3, Try.ntmps3
  go_wp2_with fail
  refine (anchor_any _).mono ?_
  rintro e w0 ⟨rfl, b0⟩
  have B0 : Hid (Below w.heap.size w w0) := b0
  clear b0
  go_wp2_with fail
  refine (HPD.out _ B0.out).mono ?_
  rintro e w1 ⟨g, rfl, s1, b1⟩
  have B1 : Hid (Below w.heap.size w w1) := b1
  have S1 : Hid (Src w1 (.slice (some ⟨g, 0, none⟩) s s) (padL l)) := s1
  clear b1 s1
  go_wp2_with fail
  refine (HST.out _ _ S1.out).mono ?_
  rintro e w2 ⟨q2, c2, rfl, s2, b2⟩
  have B2 : Hid (Below w.heap.size w w2) := B1.out.trans (b2.mono B1.out.size)
  have S2 : Hid (Src w2 (.slice (some ⟨g, 0, none⟩) s s) (padL l)) := S1.out.below b2
  have U2 : Hid (Src w2 (.slice q2 n c2) l) := s2
  have V2 : Hid (Src w2 (.slice p n c) l) := HS.out.below B2.out
  clear b2 s2 S1 B0 B1
  have HP : Hid (∀ w', Only [] w2 w' → SrcV [] (padL l) (.slice (some ⟨g, 0, none⟩) s s) w') := fun w' h => srcV_of (S2.out.only h (fun _ _ hm => by cases hm))
  have HU : Hid (∀ w', Only [] w2 w' → SrcV [] l (.slice q2 n c2) w') := fun w' h => srcV_of (U2.out.only h (fun _ _ hm => by cases hm))
  have HB : Hid (∀ w', Only [] w2 w' → SrcV [] l (.slice p n c) w') := fun w' h => srcV_of (V2.out.only h (fun _ _ hm => by cases hm))
  have HRQ : Hid (∀ w', Only [] w2 w' → ∀ v, SrcV [] l v w' → Calls Try.prog 12 #[v] w' fun e u => ∃ v', e = .returned v' ∧ Src u v' (padL l) ∧ Below w'.heap.size w' u) := fun w' _ v hv => HRA.out w' v hv.1
  clear HS HPD HST HRA S2 U2 V2
  generalize padL l = pd at *
  generalize l = tx at *
  go_wp2_with fail
  have RB : ∀ k w w', Below w.heap.size w w' → (fun (_ : Nat) (_ : World) => True) k w → (fun (_ : Nat) (_ : World) => True) k w' := fun _ _ _ _ _ => trivial
  refine wp_region_st (pd9 pd tx) (fun u u' => Only [] u u') (SeqS [] (fun (_ : Nat) (_ : World) => True)) (by kernel_rfl) (only_drew _ _) (only_trans _) (pd9_kept pd tx) (by kernel_rfl) (SeqS.start (trivial)) ?_ ?_
  · intro i o a' w' f hi inv hS hfi hfw hpre
    have ho : Only [] w2 w' := inv.grow
    have hlt : i < 22 := (Array.getElem?_eq_some_iff.1 hi).1
    obtain rfl|rfl|rfl|rfl|rfl|rfl|rfl|rfl|rfl|rfl|rfl|rfl|rfl|rfl|rfl|rfl|rfl|rfl|rfl|rfl|rfl|rfl : i = 0 ∨ i = 1 ∨ i = 2 ∨ i = 3 ∨ i = 4 ∨ i = 5 ∨ i = 6 ∨ i = 7 ∨ i = 8 ∨ i = 9 ∨ i = 10 ∨ i = 11 ∨ i = 12 ∨ i = 13 ∨ i = 14 ∨ i = 15 ∨ i = 16 ∨ i = 17 ∨ i = 18 ∨ i = 19 ∨ i = 20 ∨ i = 21 := by omega
    · obtain rfl := Option.some.inj hi
      exact sq_value _ rfl rfl rfl (Below.refl _ _) (by decide) hS RB (by show a'.tmps.getD 4 undef = _; rw [inv.old 4 (notDst_spec (by kernel_rfl))]; rfl)
    · obtain rfl := Option.some.inj hi
      have h0 : a'.tmps.getD 32 undef = _ := pre_of hpre 0 32 (by kernel_rfl) (by kernel_rfl)
      exact sq_value _ rfl rfl (eqlE_run 32 _ _ rfl h0) (Below.refl _ _) (by decide) hS RB (by show Value.bool _ = _; simp)
    · obtain rfl := Option.some.inj hi
      have h0 := pre_of hpre 1 33 (by kernel_rfl) (by kernel_rfl)
      exact sq_value _ rfl rfl (rfl) (Below.refl _ _) (by decide) hS RB h0
    · obtain rfl := Option.some.inj hi
      have hgu : a'.tmps.getD 34 undef = _ := pre_of hpre 2 34 (by kernel_rfl) (by kernel_rfl)
      exact sq_value _ rfl (wanted_of 2 34 true rfl (by kernel_rfl) hgu) rfl (Below.refl _ _) (by decide) hS RB (by show SrcV _ _ (a'.tmps.getD 3 undef) _; rw [inv.old 3 (notDst_spec (by kernel_rfl))]; exact HP.out w' ho)
    · obtain rfl := Option.some.inj hi
      have hgu : a'.tmps.getD 34 undef = _ := pre_of hpre 2 34 (by kernel_rfl) (by kernel_rfl)
      have h0 := pre_of hpre 3 35 (by kernel_rfl) (by kernel_rfl)
      exact sq_value _ rfl (wanted_of 2 34 true rfl (by kernel_rfl) hgu) (conv_run 35 rfl (h0.1)) (Below.refl _ _) (by decide) hS RB rfl
    · obtain rfl := Option.some.inj hi
      have hgu : a'.tmps.getD 34 undef = _ := pre_of hpre 2 34 (by kernel_rfl) (by kernel_rfl)
      exact sq_value _ rfl (wanted_of 2 34 true rfl (by kernel_rfl) hgu) rfl (Below.refl _ _) (by decide) hS RB (by show SrcV _ _ (a'.tmps.getD 0 undef) _; rw [inv.old 0 (notDst_spec (by kernel_rfl))]; exact HB.out w' ho)
    · obtain rfl := Option.some.inj hi
      have hgu : a'.tmps.getD 34 undef = _ := pre_of hpre 2 34 (by kernel_rfl) (by kernel_rfl)
      have h0 := pre_of hpre 5 37 (by kernel_rfl) (by kernel_rfl)
      refine sq_quiet 12 #[a'.tmps.getD 37 undef] rfl (wanted_of 2 34 true rfl (by kernel_rfl) hgu) (by kernel_rfl) (by decide) hS ?_
      exact (HRQ.out w' ho _ h0).mono (by rintro e u ⟨v, rfl, h1, h2⟩; exact ⟨_, rfl, Only.of_below h2 _, (fun _ h => h), srcV_of h1⟩)
    · obtain rfl := Option.some.inj hi
      have hgu : a'.tmps.getD 34 undef = _ := pre_of hpre 2 34 (by kernel_rfl) (by kernel_rfl)
      have h0 := pre_of hpre 6 38 (by kernel_rfl) (by kernel_rfl)
      exact sq_value _ rfl (wanted_of 2 34 true rfl (by kernel_rfl) hgu) (conv_run 38 rfl (h0.1)) (Below.refl _ _) (by decide) hS RB rfl
    · obtain rfl := Option.some.inj hi
      have hgu : a'.tmps.getD 34 undef = _ := pre_of hpre 2 34 (by kernel_rfl) (by kernel_rfl)
      have h0 : a'.tmps.getD 36 undef = _ := pre_of hpre 4 36 (by kernel_rfl) (by kernel_rfl)
      have h1 : a'.tmps.getD 39 undef = _ := pre_of hpre 7 39 (by kernel_rfl) (by kernel_rfl)
      exact sq_value _ rfl (wanted_of 2 34 true rfl (by kernel_rfl) hgu) (eqlS_run 36 39 _ _ rfl h0 h1) (Below.refl _ _) (by decide) hS RB (by show Value.bool _ = _; simp)
    · obtain rfl := Option.some.inj hi
      have h0 : a'.tmps.getD 34 undef = _ := pre_of hpre 2 34 (by kernel_rfl) (by kernel_rfl)
      have h1 : a'.tmps.getD 40 undef = _ := pre_of hpre 8 40 (by kernel_rfl) (by kernel_rfl)
      exact sq_value _ rfl rfl (pick_run 34 true _ _ _ _ rfl h0 h1 rfl) (Below.refl _ _) (by decide) hS RB rfl
    · obtain rfl := Option.some.inj hi
      have h0 := pre_of hpre 9 41 (by kernel_rfl) (by kernel_rfl)
      exact sq_value _ rfl rfl (rfl) (Below.refl _ _) (by decide) hS RB h0
    · obtain rfl := Option.some.inj hi
      have hgu : a'.tmps.getD 42 undef = _ := pre_of hpre 10 42 (by kernel_rfl) (by kernel_rfl)
      exact sq_value _ rfl (wanted_of 10 42 true rfl (by kernel_rfl) hgu) rfl (Below.refl _ _) (by decide) hS RB (by show a'.tmps.getD 6 undef = _; rw [inv.old 6 (notDst_spec (by kernel_rfl))]; rfl)
    · obtain rfl := Option.some.inj hi
      have hgu : a'.tmps.getD 42 undef = _ := pre_of hpre 10 42 (by kernel_rfl) (by kernel_rfl)
      have h0 : a'.tmps.getD 43 undef = _ := pre_of hpre 11 43 (by kernel_rfl) (by kernel_rfl)
      exact sq_value _ rfl (wanted_of 10 42 true rfl (by kernel_rfl) hgu) (eqlE_run 43 _ _ rfl h0) (Below.refl _ _) (by decide) hS RB (by show Value.bool _ = _; simp)
    · obtain rfl := Option.some.inj hi
      have h0 : a'.tmps.getD 42 undef = _ := pre_of hpre 10 42 (by kernel_rfl) (by kernel_rfl)
      have h1 : a'.tmps.getD 44 undef = _ := pre_of hpre 12 44 (by kernel_rfl) (by kernel_rfl)
      exact sq_value _ rfl rfl (pick_run 42 true _ _ _ _ rfl h0 h1 rfl) (Below.refl _ _) (by decide) hS RB rfl
    · obtain rfl := Option.some.inj hi
      have h0 := pre_of hpre 13 45 (by kernel_rfl) (by kernel_rfl)
      exact sq_value _ rfl rfl (rfl) (Below.refl _ _) (by decide) hS RB h0
    · obtain rfl := Option.some.inj hi
      have hgu : a'.tmps.getD 46 undef = _ := pre_of hpre 14 46 (by kernel_rfl) (by kernel_rfl)
      exact sq_value _ rfl (wanted_of 14 46 true rfl (by kernel_rfl) hgu) rfl (Below.refl _ _) (by decide) hS RB (by show SrcV _ _ (a'.tmps.getD 5 undef) _; rw [inv.old 5 (notDst_spec (by kernel_rfl))]; exact HU.out w' ho)
    · obtain rfl := Option.some.inj hi
      have hgu : a'.tmps.getD 46 undef = _ := pre_of hpre 14 46 (by kernel_rfl) (by kernel_rfl)
      have h0 := pre_of hpre 15 47 (by kernel_rfl) (by kernel_rfl)
      exact sq_value _ rfl (wanted_of 14 46 true rfl (by kernel_rfl) hgu) (conv_run 47 rfl (h0.1)) (Below.refl _ _) (by decide) hS RB rfl
    · obtain rfl := Option.some.inj hi
      have hgu : a'.tmps.getD 46 undef = _ := pre_of hpre 14 46 (by kernel_rfl) (by kernel_rfl)
      exact sq_value _ rfl (wanted_of 14 46 true rfl (by kernel_rfl) hgu) rfl (Below.refl _ _) (by decide) hS RB (by show SrcV _ _ (a'.tmps.getD 0 undef) _; rw [inv.old 0 (notDst_spec (by kernel_rfl))]; exact HB.out w' ho)
    · obtain rfl := Option.some.inj hi
      have hgu : a'.tmps.getD 46 undef = _ := pre_of hpre 14 46 (by kernel_rfl) (by kernel_rfl)
      have h0 := pre_of hpre 17 49 (by kernel_rfl) (by kernel_rfl)
      exact sq_value _ rfl (wanted_of 14 46 true rfl (by kernel_rfl) hgu) (conv_run 49 rfl (h0.1)) (Below.refl _ _) (by decide) hS RB rfl
    · obtain rfl := Option.some.inj hi
      have hgu : a'.tmps.getD 46 undef = _ := pre_of hpre 14 46 (by kernel_rfl) (by kernel_rfl)
      have h0 : a'.tmps.getD 48 undef = _ := pre_of hpre 16 48 (by kernel_rfl) (by kernel_rfl)
      have h1 : a'.tmps.getD 50 undef = _ := pre_of hpre 18 50 (by kernel_rfl) (by kernel_rfl)
      exact sq_value _ rfl (wanted_of 14 46 true rfl (by kernel_rfl) hgu) (eqlS_run 48 50 _ _ rfl h0 h1) (Below.refl _ _) (by decide) hS RB (by show Value.bool _ = _; simp)
    · obtain rfl := Option.some.inj hi
      have h0 : a'.tmps.getD 46 undef = _ := pre_of hpre 14 46 (by kernel_rfl) (by kernel_rfl)
      have h1 : a'.tmps.getD 51 undef = _ := pre_of hpre 19 51 (by kernel_rfl) (by kernel_rfl)
      exact sq_value _ rfl rfl (pick_run 46 true _ _ _ _ rfl h0 h1 rfl) (Below.refl _ _) (by decide) hS RB rfl
    · obtain rfl := Option.some.inj hi
      have h0 := pre_of hpre 20 52 (by kernel_rfl) (by kernel_rfl)
      exact sq_value _ rfl rfl (rfl) (Below.refl _ _) (by decide) hS RB h0
  · intro a' w9 f inv hS hall hd
    have hk21 := hd 21 2 (by kernel_rfl)
    have ho : Only [] w2 w9 := inv.grow
    have hdf : a'.defers = [] := inv.defers
    have hsz : a'.tmps.size = 53 := inv.size
    have e := frame3_9 hsz (fun t ht => inv.old t (dstsIn_spec (ts := [2, 32, 33, 34, 35, 36, 37, 38, 39, 40, 41, 42, 43, 44, 45, 46, 47, 48, 49, 50, 51, 52]) (by kernel_rfl) t ht))
    have hR := hS.done (fun c hc => hall c (show c < 22 by simp at hc <;> omega))
    clear inv hd hsz hall hS
    obtain ⟨tmps, defers⟩ := a'
    obtain rfl : defers = [] := hdf
    replace e : tmps = _ := e
    replace hk21 : tmps.getD 2 undef = (.bool true) := hk21
    generalize tmps.getD 2 undef = x2 at *
    generalize tmps.getD 32 undef = x32 at *
    generalize tmps.getD 33 undef = x33 at *
    generalize tmps.getD 34 undef = x34 at *
    generalize tmps.getD 35 undef = x35 at *
    generalize tmps.getD 36 undef = x36 at *
    generalize tmps.getD 37 undef = x37 at *
    generalize tmps.getD 38 undef = x38 at *
    generalize tmps.getD 39 undef = x39 at *
    generalize tmps.getD 40 undef = x40 at *
    generalize tmps.getD 41 undef = x41 at *
    generalize tmps.getD 42 undef = x42 at *
    generalize tmps.getD 43 undef = x43 at *
    generalize tmps.getD 44 undef = x44 at *
    generalize tmps.getD 45 undef = x45 at *
    generalize tmps.getD 46 undef = x46 at *
    generalize tmps.getD 47 undef = x47 at *
    generalize tmps.getD 48 undef = x48 at *
    generalize tmps.getD 49 undef = x49 at *
    generalize tmps.getD 50 undef = x50 at *
    generalize tmps.getD 51 undef = x51 at *
    generalize tmps.getD 52 undef = x52 at *
    simp only [Array.getD_eq_getD_getElem?, List.getElem?_toArray, List.getElem?_cons_succ, List.getElem?_cons_zero, Option.getD_some] at e
    subst e
    subst hk21
    have B9 : Hid (Below w.heap.size w w9) := B2.out.trans (ho.below B2.out.size (fun y hy => by cases hy))
    go_wp2_with fail
    go_ret
    exact ⟨rfl, B9.out⟩
theorem pads_any (p : Option Addr) (n c : Nat) (w : World) (h1 : RowIs w p n c) : Calls Try.prog 3 #[.slice p n c] w fun e w' => e = .returned (.bool true) ∧ Below w.heap.size w w' := by
  by_cases h : 2046 < n
  · exact pads_long p n c w h h1.max
  · obtain ⟨l, hl, hs⟩ := Src.of h1
    exact pads_main p n c w hs hl (by omega)
end Go.Proofs.Ytedbfhbmpeogdaa.C8
