/- The walk of CodeReads. -/
import Derived.Test.YtcpojjhopbcjkaaC8ReadsV
namespace Go.Proofs.Ytcpojjhopbcjkaa.C8
open Go.RowKit
set_option maxHeartbeats 1000000 in
theorem reads_many (a : Option Addr) (n c : Nat) (a2 : Option Addr) (n2 c2 : Nat) (w : World) (hm : n ≤ 9223372036854775807) (hm2 : n2 ≤ 9223372036854775807) (hn : 2000 < n ∨ 30 < n2) :
    Calls Try.prog 4 #[.slice a n c, .slice a2 n2 c2] w fun e w' => e = .returned (.bool true) ∧ Below w.heap.size w w' := by
  by_cases h1 : 2000 < n
  · have n1 : (2000 : Int) < (n : Int) := by omega
    clear hn
    go_enter Try.func4, Try.ntmps4
    go_wp2_with (go_at_call 9; refine (anchor_any _).mono ?_; rintro e w0 ⟨rfl, b0⟩; have B0 : Hid (Below w.heap.size w w0) := b0; clear b0)
    go_ret
    exact ⟨rfl, B0.out⟩
  · have n1 : (n : Int) ≤ 2000 := by omega
    have n2 : (30 : Int) < (n2 : Int) := by omega
    clear hn
    go_enter Try.func4, Try.ntmps4
    go_wp2_with (go_at_call 9; refine (anchor_any _).mono ?_; rintro e w0 ⟨rfl, b0⟩; have B0 : Hid (Below w.heap.size w w0) := b0; clear b0)
    go_ret
    exact ⟨rfl, B0.out⟩
/-- What the loop keeps. -/
def Loop4 (w wr : World) (p g q : Nat) (sv : Value) (l : List Nat) : Prop :=
  Below w.heap.size w wr ∧ ∃ o at_ left bad, Both wr p g q sv l o at_ left bad
set_option maxRecDepth 10000 in
set_option maxHeartbeats 8000000 in
theorem reads_main (a : Option Addr) (c : Nat) (l : List Nat) (n : Nat) (a2 : Option Addr) (c2 : Nat) (ks : List Ak) (n2 : Nat) (w : World) (hl : l.length = n) (hn : n ≤ 2000) (hs : Src w (.slice a n c) l) (hk : ks.length = n2) (hn2 : n2 ≤ 30) (hr : AskRow w a2 ks) :
    Calls Try.prog 4 #[.slice a n c, .slice a2 n2 c2] w fun e w' => e = .returned (.bool true) ∧ Below w.heap.size w w' := by
  have n1 : (n : Int) ≤ 2000 := by omega
  have k1 : (n2 : Int) ≤ 30 := by omega
  have HS : Hid (Old w.heap.size w (.slice a n c) l) := Old.of hs
  have HL : Hid (l.length = n) := hl
  have HK : Hid (ks.length = n2) := hk
  have HR : Hid (AskRow w a2 ks) := hr
  clear hs hl hk hr
  go_enter Try.func4, Try.ntmps4
  go_wp2_with (first
    | (go_at_call 9; refine (anchor_any _).mono ?_; rintro e w0 ⟨rfl, b0⟩; have B0 : Hid (Below w.heap.size w w0) := b0; clear b0)
    | (go_at_call 14; refine (Read_any _ l _ (HS.out.keep B0.out).1 (by rw [HL.out]; omega)).mono ?_; rintro e w1 ⟨p, g, o, rfl, r1, p1, g1, b1⟩; have R1 : Hid (RdAt w1 p g o l false) := r1; have B1 : Hid (Below w.heap.size w w1) := B0.out.trans (bel_le b1 B0.out.size); have PG : Hid (w.heap.size ≤ p ∧ w.heap.size ≤ g ∧ p < w1.heap.size ∧ (l ≠ [] → g < w1.heap.size)) := ⟨Nat.le_trans B0.out.size p1, Nat.le_trans B0.out.size g1, r1.lt, fun h0 => r1.glt h0⟩; clear r1 b1 p1 g1))
  have HQ0 : Hid (Loop4 w (w1.alloc (Obj.cells #[.slice a n c, .int .i64 0, .bool false] 40)) p g w1.heap.size (.slice a n c) l) := by
    have hb : Below w1.heap.size w1 (w1.alloc (Obj.cells #[.slice a n c, .int .i64 0, .bool false] 40)) := (Below.refl _ w1).alloc (Nat.le_refl _) _
    exact ⟨B1.out.trans (bel_le hb B1.out.size), o, 0, l, false, R1.out.below hb, heap_alloc_new w1 _, Nat.zero_le _, (fun _ => by simp), (fun h => by cases h)⟩
  have HD : Hid (p ≠ w1.heap.size ∧ (l ≠ [] → g ≠ w1.heap.size) ∧ w.heap.size ≤ w1.heap.size ∧ w.heap.size ≤ p) := by
    obtain ⟨h1, h2, h3, h4⟩ := PG.out
    exact ⟨by omega, fun h0 => by have := h4 h0; omega, B1.out.size, h1⟩
  clear R1 B1 B0 PG
  generalize w1.alloc (Obj.cells #[.slice a n c, .int .i64 0, .bool false] 40) = w2 at *
  generalize w1.heap.size = q at *
  go_loopw [26] (fun i wr => ∃ j : Nat, j ≤ n2 ∧ i = .int .i64 j ∧ Hid (Loop4 w wr p g q (.slice a n c) l)) (fun i _ => n2 - (intOf i).toNat)
  case atStart => exact ⟨0, by omega, rfl, HQ0.out⟩
  case round =>
    obtain ⟨j, hj, rfl, HLo⟩ := hrel
    clear HQ0
    by_cases hlt : j < n2
    · have hjk : j < ks.length := by rw [HK.out]; exact hlt
      obtain ⟨b2, o2', rfl, hb2, e0, e1, e2⟩ := HR.out j hjk
      obtain ⟨hbel, o, at_, left, bad, hrd, hrf, hat, hlf, hlt2⟩ := HLo.out
      have d0 := (hbel.cell (p := ⟨b2, o2' + j * 3, none⟩) hb2).trans e0
      have d1 := (hbel.cell (p := ⟨b2, o2' + j * 3 + 1, none⟩) hb2).trans e1
      have d2 := (hbel.cell (p := ⟨b2, o2' + j * 3 + 2, none⟩) hb2).trans e2
      have j1 : (j : Int) < (n2 : Int) := by omega
      have j0 : (0 : Int) ≤ (j : Int) := by omega
      generalize ks[j] = ak at *
      obtain ⟨isT, least, most⟩ := ak
      simp only at d0 d1 d2
      clear e0 e1 e2 hjk HLo
      have HP : Hid (p < wr.heap.size ∧ q < wr.heap.size ∧ b2 < wr.heap.size) := ⟨hrd.lt, hrf.lt, Nat.lt_of_lt_of_le hb2 hbel.size⟩
      have hsrc : ∀ W, Below w.heap.size w W → Src W (.slice a n c) l := fun W hW => (HS.out.keep hW).1
      cases isT with
      | true =>
        obtain ⟨S, o2, at2, left2, bd, ha2, hf2, ht2, hc1, hc2⟩ := text_both p g q (.slice a n c) l o at_ left bad least most (by rw [HL.out]; exact hn) HD.out.2.1 hat hlf hlt2
        have hAl : Below wr.heap.size wr (wr.alloc (Obj.cells #[.bool true, .int .i64 least, .int .i64 most] 42)) := (Below.refl _ wr).alloc (Nat.le_refl _) _
        have hB1 : Below w.heap.size w (wr.alloc (Obj.cells #[.bool true, .int .i64 least, .int .i64 most] 42)) := hbel.trans (bel_le hAl hbel.size)
        have hWb : ∀ w', Only [p, q] (wr.alloc (Obj.cells #[.bool true, .int .i64 least, .int .i64 most] 42)) w' → Below w.heap.size w w' := fun w' ho => hB1.trans (ho.below hB1.size (by have := HD.out.2.2; simp; omega))
        have hnew := heap_alloc_new wr (Obj.cells #[.bool true, .int .i64 least, .int .i64 most] 42)
        have HAB : Hid (∀ w', Only [p, q] (wr.alloc (Obj.cells #[.bool true, .int .i64 least, .int .i64 most] 42)) w' → w'.cell? ⟨wr.heap.size, 0, none⟩ = some (.bool true) ∧ w'.cell? ⟨wr.heap.size, 1, none⟩ = some (.int .i64 least) ∧ w'.cell? ⟨wr.heap.size, 2, none⟩ = some (.int .i64 most)) := fun w' ho => by
          have hW := (ho.block wr.heap.size (Array.getElem?_eq_some_iff.1 hnew).1 (by have := HP.out; simp; omega)).trans hnew
          refine ⟨?_, ?_, ?_⟩ <;> (rw [cell_of_row _ _ _ _ _ _ hW]; rfl)
        have HC1 : Hid (∀ w', Only [p, q] (wr.alloc (Obj.cells #[.bool true, .int .i64 least, .int .i64 most] 42)) w' → (RdAt w' p g o left bad ∧ RfAt w' q (.slice a n c) at_ bad) → Calls Try.prog 15 #[.pointer (some ⟨p, 0, none⟩), .int .i64 least, .int .i64 most] w' fun e w2 => ∃ v, e = .returned v ∧ Only [p, q] w' w2 ∧ (RdAt w2 p g o2 left2 bd ∧ RfAt w2 q (.slice a n c) at_ bad) ∧ SrcV [p, q] S v w2) := fun w' ho hR =>
          (hc1 w' hR.1).mono (by rintro e u ⟨v, rfl, h1, h2, h3⟩; exact ⟨v, rfl, h3.more (by simp), ⟨h2, hR.2.only h3 (by simpa using Ne.symm HD.out.1)⟩, h1⟩)
        have HC2 : Hid (∀ w', Only [p, q] (wr.alloc (Obj.cells #[.bool true, .int .i64 least, .int .i64 most] 42)) w' → (RdAt w' p g o2 left2 bd ∧ RfAt w' q (.slice a n c) at_ bad) → Calls Try.prog 19 #[.pointer (some ⟨q, 0, none⟩), .int .i64 least, .int .i64 most] w' fun e w2 => ∃ v, e = .returned v ∧ Only [p, q] w' w2 ∧ (RdAt w2 p g o2 left2 bd ∧ RfAt w2 q (.slice a n c) at2 bd) ∧ SrcV [p, q] S v w2) := fun w' ho hR =>
          (hc2 w' hR.2 (hsrc w' (hWb w' ho)) (fun h0 b hb hm => by have h5 := HS.out.2 h0 b hb; have h6 := HD.out.2.2; simp at hm; omega)).mono (by
            rintro e u ⟨v, rfl, h1, h2, h3⟩
            refine ⟨v, rfl, h3.more (by simp), ⟨hR.1.kept2 (h3.block p hR.1.lt (by simpa using HD.out.1)) (fun h0 => h3.block g (hR.1.glt h0) ?_), h2⟩, h1⟩
            have h5 := HD.out.2.1 (fun e => h0 (by cases bd with | true => exact ht2 rfl | false => rw [hf2 rfl, e]; simp))
            simpa using h5)
        have HR0 : Hid (RdAt (wr.alloc (Obj.cells #[.bool true, .int .i64 least, .int .i64 most] 42)) p g o left bad ∧ RfAt (wr.alloc (Obj.cells #[.bool true, .int .i64 least, .int .i64 most] 42)) q (.slice a n c) at_ bad) := ⟨hrd.below hAl, hrf.below hAl⟩
        have HWB : Hid (∀ w', Only [p, q] (wr.alloc (Obj.cells #[.bool true, .int .i64 least, .int .i64 most] 42)) w' → Below w.heap.size w w') := hWb
        have HBO : Hid (at2 ≤ l.length ∧ (bd = false → left2 = l.drop at2) ∧ (bd = true → left2 = [])) := ⟨ha2, hf2, ht2⟩
        have HSRC : Hid (∀ W, Below w.heap.size w W → Src W (.slice a n c) l) := hsrc
        clear hc1 hc2 hAl hB1 hWb hnew ha2 hf2 ht2 hrd hrf hlf hlt2 hat hbel
        go_wp2_with fail
        clear d0 d1 d2
        generalize wr.alloc (Obj.cells #[.bool true, .int .i64 least, .int .i64 most] 42) = W1 at *
        generalize wr.heap.size = ab at *
        have RB : ∀ k w w', Below w.heap.size w w' → (fun k u => match k with | 0 => RdAt u p g o left bad ∧ RfAt u q (.slice a n c) at_ bad | 1 => RdAt u p g o2 left2 bd ∧ RfAt u q (.slice a n c) at_ bad | _ => RdAt u p g o2 left2 bd ∧ RfAt u q (.slice a n c) at2 bd) k w → (fun k u => match k with | 0 => RdAt u p g o left bad ∧ RfAt u q (.slice a n c) at_ bad | 1 => RdAt u p g o2 left2 bd ∧ RfAt u q (.slice a n c) at_ bad | _ => RdAt u p g o2 left2 bd ∧ RfAt u q (.slice a n c) at2 bd) k w' := fun k u u' hb h => by match k with | 0 => exact ⟨h.1.below hb, h.2.below hb⟩ | 1 => exact ⟨h.1.below hb, h.2.below hb⟩ | _ + 2 => exact ⟨h.1.below hb, h.2.below hb⟩
        refine wp_region_st (rt9 p q ab least most S) (fun u u' => Only [p, q] u u') (SeqS [8, 15] (fun k u => match k with | 0 => RdAt u p g o left bad ∧ RfAt u q (.slice a n c) at_ bad | 1 => RdAt u p g o2 left2 bd ∧ RfAt u q (.slice a n c) at_ bad | _ => RdAt u p g o2 left2 bd ∧ RfAt u q (.slice a n c) at2 bd)) (by kernel_rfl) (only_drew _ _) (only_trans _) (rt9_kept p q ab least most S) (by kernel_rfl) (SeqS.start (⟨HR0.out.1.below (below_drewN 1 _ _), HR0.out.2.below (below_drewN 1 _ _)⟩)) ?_ ?_
        · intro i o a' w' f hi inv hS hfi hfw hpre
          have ho : Only [p, q] W1 w' := inv.grow
          have hlt : i < 39 := (Array.getElem?_eq_some_iff.1 hi).1
          obtain rfl|rfl|rfl|rfl|rfl|rfl|rfl|rfl|rfl|rfl|rfl|rfl|rfl|rfl|rfl|rfl|rfl|rfl|rfl|rfl|rfl|rfl|rfl|rfl|rfl|rfl|rfl|rfl|rfl|rfl|rfl|rfl|rfl|rfl|rfl|rfl|rfl|rfl|rfl : i = 0 ∨ i = 1 ∨ i = 2 ∨ i = 3 ∨ i = 4 ∨ i = 5 ∨ i = 6 ∨ i = 7 ∨ i = 8 ∨ i = 9 ∨ i = 10 ∨ i = 11 ∨ i = 12 ∨ i = 13 ∨ i = 14 ∨ i = 15 ∨ i = 16 ∨ i = 17 ∨ i = 18 ∨ i = 19 ∨ i = 20 ∨ i = 21 ∨ i = 22 ∨ i = 23 ∨ i = 24 ∨ i = 25 ∨ i = 26 ∨ i = 27 ∨ i = 28 ∨ i = 29 ∨ i = 30 ∨ i = 31 ∨ i = 32 ∨ i = 33 ∨ i = 34 ∨ i = 35 ∨ i = 36 ∨ i = 37 ∨ i = 38 := by omega
          · obtain rfl := Option.some.inj hi
            have h0 : a'.tmps.getD 8 undef = (.pointer (some ⟨ab, 0, none⟩)) := by rw [inv.old 8 (notDst_spec (by kernel_rfl))]; rfl
            exact sq_value _ rfl rfl (fa_run 42 0 8 ab rfl h0 (fa42_0 ab)) (Below.refl _ _) (by decide) hS RB rfl
          · obtain rfl := Option.some.inj hi
            have h0 : a'.tmps.getD 30 undef = _ := pre_of hpre 0 30 (by kernel_rfl) (by kernel_rfl)
            exact sq_value _ rfl rfl (load_run 4 30 ab 0 _ rfl h0 (ld4 ((HAB.out w' ho).1))) (Below.refl _ _) (by decide) hS RB rfl
          · obtain rfl := Option.some.inj hi
            have h0 := pre_of hpre 1 31 (by kernel_rfl) (by kernel_rfl)
            exact sq_value _ rfl rfl (rfl) (Below.refl _ _) (by decide) hS RB h0
          · obtain rfl := Option.some.inj hi
            have hgu : a'.tmps.getD 32 undef = _ := pre_of hpre 2 32 (by kernel_rfl) (by kernel_rfl)
            exact sq_value _ rfl (wanted_of 2 32 true rfl (by kernel_rfl) hgu) rfl (Below.refl _ _) (by decide) hS RB (by show a'.tmps.getD 5 undef = _; rw [inv.old 5 (notDst_spec (by kernel_rfl))]; rfl)
          · obtain rfl := Option.some.inj hi
            have hgu : a'.tmps.getD 32 undef = _ := pre_of hpre 2 32 (by kernel_rfl) (by kernel_rfl)
            have h0 : a'.tmps.getD 8 undef = (.pointer (some ⟨ab, 0, none⟩)) := by rw [inv.old 8 (notDst_spec (by kernel_rfl))]; rfl
            exact sq_value _ rfl (wanted_of 2 32 true rfl (by kernel_rfl) hgu) (fa_run 42 1 8 ab rfl h0 (fa42_1 ab)) (Below.refl _ _) (by decide) hS RB rfl
          · obtain rfl := Option.some.inj hi
            have hgu : a'.tmps.getD 32 undef = _ := pre_of hpre 2 32 (by kernel_rfl) (by kernel_rfl)
            have h0 : a'.tmps.getD 34 undef = _ := pre_of hpre 4 34 (by kernel_rfl) (by kernel_rfl)
            exact sq_value _ rfl (wanted_of 2 32 true rfl (by kernel_rfl) hgu) (load_run 3 34 ab 1 _ rfl h0 (ld3 ((HAB.out w' ho).2.1))) (Below.refl _ _) (by decide) hS RB rfl
          · obtain rfl := Option.some.inj hi
            have hgu : a'.tmps.getD 32 undef = _ := pre_of hpre 2 32 (by kernel_rfl) (by kernel_rfl)
            have h0 : a'.tmps.getD 8 undef = (.pointer (some ⟨ab, 0, none⟩)) := by rw [inv.old 8 (notDst_spec (by kernel_rfl))]; rfl
            exact sq_value _ rfl (wanted_of 2 32 true rfl (by kernel_rfl) hgu) (fa_run 42 2 8 ab rfl h0 (fa42_2 ab)) (Below.refl _ _) (by decide) hS RB rfl
          · obtain rfl := Option.some.inj hi
            have hgu : a'.tmps.getD 32 undef = _ := pre_of hpre 2 32 (by kernel_rfl) (by kernel_rfl)
            have h0 : a'.tmps.getD 36 undef = _ := pre_of hpre 6 36 (by kernel_rfl) (by kernel_rfl)
            exact sq_value _ rfl (wanted_of 2 32 true rfl (by kernel_rfl) hgu) (load_run 3 36 ab 2 _ rfl h0 (ld3 ((HAB.out w' ho).2.2))) (Below.refl _ _) (by decide) hS RB rfl
          · obtain rfl := Option.some.inj hi
            have hgu : a'.tmps.getD 32 undef = _ := pre_of hpre 2 32 (by kernel_rfl) (by kernel_rfl)
            have h0 : a'.tmps.getD 33 undef = _ := pre_of hpre 3 33 (by kernel_rfl) (by kernel_rfl)
            have h1 : a'.tmps.getD 35 undef = _ := pre_of hpre 5 35 (by kernel_rfl) (by kernel_rfl)
            have h2 : a'.tmps.getD 37 undef = _ := pre_of hpre 7 37 (by kernel_rfl) (by kernel_rfl)
            refine sq_call (k := 0) 15 #[a'.tmps.getD 33 undef, a'.tmps.getD 35 undef, a'.tmps.getD 37 undef] rfl (wanted_of 2 32 true rfl (by kernel_rfl) hgu) (by kernel_rfl) rfl (by decide) hfi (fun c h _ => absurd rfl h) hS (fun hR => ?_)
            rw [h0, h1, h2]
            exact HC1.out w' ho hR
          · obtain rfl := Option.some.inj hi
            have hgu : a'.tmps.getD 32 undef = _ := pre_of hpre 2 32 (by kernel_rfl) (by kernel_rfl)
            have h0 := pre_of hpre 8 38 (by kernel_rfl) (by kernel_rfl)
            exact sq_value _ rfl (wanted_of 2 32 true rfl (by kernel_rfl) hgu) (conv_run 38 rfl (h0.1)) (Below.refl _ _) (by decide) hS RB rfl
          · obtain rfl := Option.some.inj hi
            have hgu : a'.tmps.getD 32 undef = _ := pre_of hpre 2 32 (by kernel_rfl) (by kernel_rfl)
            exact sq_value _ rfl (wanted_of 2 32 true rfl (by kernel_rfl) hgu) rfl (Below.refl _ _) (by decide) hS RB (by show a'.tmps.getD 6 undef = _; rw [inv.old 6 (notDst_spec (by kernel_rfl))]; rfl)
          · obtain rfl := Option.some.inj hi
            have hgu : a'.tmps.getD 32 undef = _ := pre_of hpre 2 32 (by kernel_rfl) (by kernel_rfl)
            have h0 : a'.tmps.getD 8 undef = (.pointer (some ⟨ab, 0, none⟩)) := by rw [inv.old 8 (notDst_spec (by kernel_rfl))]; rfl
            exact sq_value _ rfl (wanted_of 2 32 true rfl (by kernel_rfl) hgu) (fa_run 42 1 8 ab rfl h0 (fa42_1 ab)) (Below.refl _ _) (by decide) hS RB rfl
          · obtain rfl := Option.some.inj hi
            have hgu : a'.tmps.getD 32 undef = _ := pre_of hpre 2 32 (by kernel_rfl) (by kernel_rfl)
            have h0 : a'.tmps.getD 41 undef = _ := pre_of hpre 11 41 (by kernel_rfl) (by kernel_rfl)
            exact sq_value _ rfl (wanted_of 2 32 true rfl (by kernel_rfl) hgu) (load_run 3 41 ab 1 _ rfl h0 (ld3 ((HAB.out w' ho).2.1))) (Below.refl _ _) (by decide) hS RB rfl
          · obtain rfl := Option.some.inj hi
            have hgu : a'.tmps.getD 32 undef = _ := pre_of hpre 2 32 (by kernel_rfl) (by kernel_rfl)
            have h0 : a'.tmps.getD 8 undef = (.pointer (some ⟨ab, 0, none⟩)) := by rw [inv.old 8 (notDst_spec (by kernel_rfl))]; rfl
            exact sq_value _ rfl (wanted_of 2 32 true rfl (by kernel_rfl) hgu) (fa_run 42 2 8 ab rfl h0 (fa42_2 ab)) (Below.refl _ _) (by decide) hS RB rfl
          · obtain rfl := Option.some.inj hi
            have hgu : a'.tmps.getD 32 undef = _ := pre_of hpre 2 32 (by kernel_rfl) (by kernel_rfl)
            have h0 : a'.tmps.getD 43 undef = _ := pre_of hpre 13 43 (by kernel_rfl) (by kernel_rfl)
            exact sq_value _ rfl (wanted_of 2 32 true rfl (by kernel_rfl) hgu) (load_run 3 43 ab 2 _ rfl h0 (ld3 ((HAB.out w' ho).2.2))) (Below.refl _ _) (by decide) hS RB rfl
          · obtain rfl := Option.some.inj hi
            have hgu : a'.tmps.getD 32 undef = _ := pre_of hpre 2 32 (by kernel_rfl) (by kernel_rfl)
            have h0 : a'.tmps.getD 40 undef = _ := pre_of hpre 10 40 (by kernel_rfl) (by kernel_rfl)
            have h1 : a'.tmps.getD 42 undef = _ := pre_of hpre 12 42 (by kernel_rfl) (by kernel_rfl)
            have h2 : a'.tmps.getD 44 undef = _ := pre_of hpre 14 44 (by kernel_rfl) (by kernel_rfl)
            refine sq_call (k := 1) 19 #[a'.tmps.getD 40 undef, a'.tmps.getD 42 undef, a'.tmps.getD 44 undef] rfl (wanted_of 2 32 true rfl (by kernel_rfl) hgu) (by kernel_rfl) rfl (by decide) hfi (fun c _ hc => by cases hc; exact been_of hfw 8 (by kernel_rfl)) hS (fun hR => ?_)
            rw [h0, h1, h2]
            exact HC2.out w' ho hR
          · obtain rfl := Option.some.inj hi
            have hgu : a'.tmps.getD 32 undef = _ := pre_of hpre 2 32 (by kernel_rfl) (by kernel_rfl)
            have h0 := pre_of hpre 15 45 (by kernel_rfl) (by kernel_rfl)
            exact sq_value _ rfl (wanted_of 2 32 true rfl (by kernel_rfl) hgu) (conv_run 45 rfl (h0.1)) (Below.refl _ _) (by decide) hS RB rfl
          · obtain rfl := Option.some.inj hi
            have hgu : a'.tmps.getD 32 undef = _ := pre_of hpre 2 32 (by kernel_rfl) (by kernel_rfl)
            have h0 : a'.tmps.getD 39 undef = _ := pre_of hpre 9 39 (by kernel_rfl) (by kernel_rfl)
            have h1 : a'.tmps.getD 46 undef = _ := pre_of hpre 16 46 (by kernel_rfl) (by kernel_rfl)
            exact sq_value _ rfl (wanted_of 2 32 true rfl (by kernel_rfl) hgu) (neqS_run 39 46 _ _ rfl h0 h1) (Below.refl _ _) (by decide) hS RB (by show Value.bool _ = _; simp)
          · obtain rfl := Option.some.inj hi
            have h0 : a'.tmps.getD 32 undef = _ := pre_of hpre 2 32 (by kernel_rfl) (by kernel_rfl)
            have h1 : a'.tmps.getD 47 undef = _ := pre_of hpre 17 47 (by kernel_rfl) (by kernel_rfl)
            exact sq_value _ rfl rfl (pick_run 32 true _ _ _ _ rfl h0 h1 rfl) (Below.refl _ _) (by decide) hS RB rfl
          · obtain rfl := Option.some.inj hi
            have h0 := pre_of hpre 18 48 (by kernel_rfl) (by kernel_rfl)
            exact sq_value _ rfl rfl (rfl) (Below.refl _ _) (by decide) hS RB h0
          · obtain rfl := Option.some.inj hi
            have hgu : a'.tmps.getD 49 undef = _ := pre_of hpre 19 49 (by kernel_rfl) (by kernel_rfl)
            have h0 : a'.tmps.getD 8 undef = (.pointer (some ⟨ab, 0, none⟩)) := by rw [inv.old 8 (notDst_spec (by kernel_rfl))]; rfl
            exact sq_value _ rfl (wanted_of 19 49 false rfl (by kernel_rfl) hgu) (fa_run 42 0 8 ab rfl h0 (fa42_0 ab)) (Below.refl _ _) (by decide) hS RB rfl
          · obtain rfl := Option.some.inj hi
            have hgu : a'.tmps.getD 49 undef = _ := pre_of hpre 19 49 (by kernel_rfl) (by kernel_rfl)
            have h0 : a'.tmps.getD 50 undef = _ := pre_of hpre 20 50 (by kernel_rfl) (by kernel_rfl)
            exact sq_value _ rfl (wanted_of 19 49 false rfl (by kernel_rfl) hgu) (load_run 4 50 ab 0 _ rfl h0 (ld4 ((HAB.out w' ho).1))) (Below.refl _ _) (by decide) hS RB rfl
          · obtain rfl := Option.some.inj hi
            have hgu : a'.tmps.getD 49 undef = _ := pre_of hpre 19 49 (by kernel_rfl) (by kernel_rfl)
            have h0 : a'.tmps.getD 51 undef = _ := pre_of hpre 21 51 (by kernel_rfl) (by kernel_rfl)
            exact sq_value _ rfl (wanted_of 19 49 false rfl (by kernel_rfl) hgu) (not_run 51 true rfl h0) (Below.refl _ _) (by decide) hS RB rfl
          · obtain rfl := Option.some.inj hi
            have hgu : a'.tmps.getD 49 undef = _ := pre_of hpre 19 49 (by kernel_rfl) (by kernel_rfl)
            have h0 := pre_of hpre 22 52 (by kernel_rfl) (by kernel_rfl)
            exact sq_value _ rfl (wanted_of 19 49 false rfl (by kernel_rfl) hgu) (rfl) (Below.refl _ _) (by decide) hS RB h0
          · obtain rfl := Option.some.inj hi
            have hgu : a'.tmps.getD 53 undef = _ := pre_of hpre 23 53 (by kernel_rfl) (by kernel_rfl)
            exact sq_skip rfl (unwanted_of 23 53 false rfl (by kernel_rfl) hgu) (by decide) hS rfl
          · obtain rfl := Option.some.inj hi
            have hgu : a'.tmps.getD 53 undef = _ := pre_of hpre 23 53 (by kernel_rfl) (by kernel_rfl)
            exact sq_skip rfl (unwanted_of 23 53 false rfl (by kernel_rfl) hgu) (by decide) hS rfl
          · obtain rfl := Option.some.inj hi
            have hgu : a'.tmps.getD 53 undef = _ := pre_of hpre 23 53 (by kernel_rfl) (by kernel_rfl)
            exact sq_skip rfl (unwanted_of 23 53 false rfl (by kernel_rfl) hgu) (by decide) hS rfl
          · obtain rfl := Option.some.inj hi
            have hgu : a'.tmps.getD 53 undef = _ := pre_of hpre 23 53 (by kernel_rfl) (by kernel_rfl)
            exact sq_skip rfl (unwanted_of 23 53 false rfl (by kernel_rfl) hgu) (by decide) hS rfl
          · obtain rfl := Option.some.inj hi
            have hgu : a'.tmps.getD 53 undef = _ := pre_of hpre 23 53 (by kernel_rfl) (by kernel_rfl)
            exact sq_skip rfl (unwanted_of 23 53 false rfl (by kernel_rfl) hgu) (by decide) hS rfl
          · obtain rfl := Option.some.inj hi
            have hgu : a'.tmps.getD 53 undef = _ := pre_of hpre 23 53 (by kernel_rfl) (by kernel_rfl)
            exact sq_skip rfl (unwanted_of 23 53 false rfl (by kernel_rfl) hgu) (by decide) hS rfl
          · obtain rfl := Option.some.inj hi
            have hgu : a'.tmps.getD 53 undef = _ := pre_of hpre 23 53 (by kernel_rfl) (by kernel_rfl)
            exact sq_skip rfl (unwanted_of 23 53 false rfl (by kernel_rfl) hgu) (by decide) hS rfl
          · obtain rfl := Option.some.inj hi
            have hgu : a'.tmps.getD 53 undef = _ := pre_of hpre 23 53 (by kernel_rfl) (by kernel_rfl)
            exact sq_skip rfl (unwanted_of 23 53 false rfl (by kernel_rfl) hgu) (by decide) hS rfl
          · obtain rfl := Option.some.inj hi
            have hgu : a'.tmps.getD 53 undef = _ := pre_of hpre 23 53 (by kernel_rfl) (by kernel_rfl)
            exact sq_skip rfl (unwanted_of 23 53 false rfl (by kernel_rfl) hgu) (by decide) hS rfl
          · obtain rfl := Option.some.inj hi
            have hgu : a'.tmps.getD 53 undef = _ := pre_of hpre 23 53 (by kernel_rfl) (by kernel_rfl)
            exact sq_skip rfl (unwanted_of 23 53 false rfl (by kernel_rfl) hgu) (by decide) hS rfl
          · obtain rfl := Option.some.inj hi
            have hgu : a'.tmps.getD 53 undef = _ := pre_of hpre 23 53 (by kernel_rfl) (by kernel_rfl)
            exact sq_skip rfl (unwanted_of 23 53 false rfl (by kernel_rfl) hgu) (by decide) hS rfl
          · obtain rfl := Option.some.inj hi
            have hgu : a'.tmps.getD 53 undef = _ := pre_of hpre 23 53 (by kernel_rfl) (by kernel_rfl)
            exact sq_skip rfl (unwanted_of 23 53 false rfl (by kernel_rfl) hgu) (by decide) hS rfl
          · obtain rfl := Option.some.inj hi
            have hgu : a'.tmps.getD 53 undef = _ := pre_of hpre 23 53 (by kernel_rfl) (by kernel_rfl)
            exact sq_skip rfl (unwanted_of 23 53 false rfl (by kernel_rfl) hgu) (by decide) hS rfl
          · obtain rfl := Option.some.inj hi
            have hgu : a'.tmps.getD 49 undef = _ := pre_of hpre 19 49 (by kernel_rfl) (by kernel_rfl)
            have h0 : a'.tmps.getD 53 undef = _ := pre_of hpre 23 53 (by kernel_rfl) (by kernel_rfl)
            exact sq_value _ rfl (wanted_of 19 49 false rfl (by kernel_rfl) hgu) (pick_run 53 false _ _ _ _ rfl h0 rfl rfl) (Below.refl _ _) (by decide) hS RB rfl
          · obtain rfl := Option.some.inj hi
            have h0 : a'.tmps.getD 49 undef = _ := pre_of hpre 19 49 (by kernel_rfl) (by kernel_rfl)
            have h1 : a'.tmps.getD 67 undef = _ := pre_of hpre 37 67 (by kernel_rfl) (by kernel_rfl)
            exact sq_value _ rfl rfl (pick_run 49 false _ _ _ _ rfl h0 rfl h1) (Below.refl _ _) (by decide) hS RB rfl
        · intro a' w4 f inv hS hall hd
          have hk38 := hd 38 68 (by kernel_rfl)
          have ho : Only [p, q] W1 w4 := inv.grow
          have hdf : a'.defers = [] := inv.defers
          have hsz : a'.tmps.size = 84 := inv.size
          have e := frame4_9 hsz (fun t ht => inv.old t (dstsIn_spec (ts := [30, 31, 32, 33, 34, 35, 36, 37, 38, 39, 40, 41, 42, 43, 44, 45, 46, 47, 48, 49, 50, 51, 52, 53, 54, 55, 56, 57, 58, 59, 60, 61, 62, 63, 64, 65, 66, 67, 68]) (by kernel_rfl) t ht))
          have hR := hS.done (fun c hc => hall c (show c < 39 by simp at hc <;> omega))
          clear inv hd hsz hall hS
          obtain ⟨tmps, defers⟩ := a'
          obtain rfl : defers = [] := hdf
          replace e : tmps = _ := e
          replace hk38 : tmps.getD 68 undef = (.bool false) := hk38
          generalize tmps.getD 30 undef = x30 at *
          generalize tmps.getD 31 undef = x31 at *
          generalize tmps.getD 32 undef = x32 at *
          generalize tmps.getD 33 undef = x33 at *
          generalize tmps.getD 34 undef = x34 at *
          generalize tmps.getD 35 undef = x35 at *
          generalize tmps.getD 36 undef = x36 at *
          generalize tmps.getD 37 undef = x37 at *
          generalize tmps.getD 38 undef = x38 at *
          generalize tmps.getD 39 undef = x39 at *
          generalize tmps.getD 40 undef = x40 at *
          generalize tmps.getD 41 undef = x41 at *
          generalize tmps.getD 42 undef = x42 at *
          generalize tmps.getD 43 undef = x43 at *
          generalize tmps.getD 44 undef = x44 at *
          generalize tmps.getD 45 undef = x45 at *
          generalize tmps.getD 46 undef = x46 at *
          generalize tmps.getD 47 undef = x47 at *
          generalize tmps.getD 48 undef = x48 at *
          generalize tmps.getD 49 undef = x49 at *
          generalize tmps.getD 50 undef = x50 at *
          generalize tmps.getD 51 undef = x51 at *
          generalize tmps.getD 52 undef = x52 at *
          generalize tmps.getD 53 undef = x53 at *
          generalize tmps.getD 54 undef = x54 at *
          generalize tmps.getD 55 undef = x55 at *
          generalize tmps.getD 56 undef = x56 at *
          generalize tmps.getD 57 undef = x57 at *
          generalize tmps.getD 58 undef = x58 at *
          generalize tmps.getD 59 undef = x59 at *
          generalize tmps.getD 60 undef = x60 at *
          generalize tmps.getD 61 undef = x61 at *
          generalize tmps.getD 62 undef = x62 at *
          generalize tmps.getD 63 undef = x63 at *
          generalize tmps.getD 64 undef = x64 at *
          generalize tmps.getD 65 undef = x65 at *
          generalize tmps.getD 66 undef = x66 at *
          generalize tmps.getD 67 undef = x67 at *
          generalize tmps.getD 68 undef = x68 at *
          simp only [Array.getD_eq_getD_getElem?, List.getElem?_toArray, List.getElem?_cons_succ, List.getElem?_cons_zero, Option.getD_some] at e
          subst e
          subst hk38
          have HRD : Hid (RdAt w4 p g o2 left2 bd) := hR.1
          have HRF : Hid (RfAt w4 q (.slice a n c) at2 bd) := hR.2
          have HB4 : Hid (Below w.heap.size w w4) := HWB.out w4 ho
          have HSR : Hid (∀ u, Only [] w4 u → Src u (.slice a n c) l) := fun u hu => HSRC.out u (HB4.out.trans (hu.below HB4.out.size (by simp)))
          obtain ⟨en, HE2⟩ : ∃ en, Hid ((!bd && decide (at2 = l.length)) = en) := ⟨_, rfl⟩
          have HE1 : Hid ((!bd && decide (left2.length = 0)) = en) := by
            show _ = _
            rw [← HE2.out]
            cases bd with
            | true => rfl
            | false =>
              obtain ⟨h1, h2, _⟩ := HBO.out
              rw [h2 rfl, List.length_drop]
              congr 1
              simp
              omega
          clear hR ho HC1 HC2 HR0 HWB HAB RB HSRC
          go_wp2_with fail
          have RB : ∀ k w w', Below w.heap.size w w' → (fun (_ : Nat) (_ : World) => True) k w → (fun (_ : Nat) (_ : World) => True) k w' := fun _ _ _ _ _ => trivial
          refine wp_region_st (re11 p q bd en) (fun u u' => Only [] u u') (SeqS [] (fun (_ : Nat) (_ : World) => True)) (by kernel_rfl) (only_drew _ _) (only_trans _) (re11_kept p q bd en) (by kernel_rfl) (SeqS.start (trivial)) ?_ ?_
          · intro i o a' w' f hi inv hS hfi hfw hpre
            have ho : Only [] w4 w' := inv.grow
            have hlt : i < 14 := (Array.getElem?_eq_some_iff.1 hi).1
            obtain rfl|rfl|rfl|rfl|rfl|rfl|rfl|rfl|rfl|rfl|rfl|rfl|rfl|rfl : i = 0 ∨ i = 1 ∨ i = 2 ∨ i = 3 ∨ i = 4 ∨ i = 5 ∨ i = 6 ∨ i = 7 ∨ i = 8 ∨ i = 9 ∨ i = 10 ∨ i = 11 ∨ i = 12 ∨ i = 13 := by omega
            · obtain rfl := Option.some.inj hi
              exact sq_value _ rfl rfl rfl (Below.refl _ _) (by decide) hS RB (by show a'.tmps.getD 5 undef = _; rw [inv.old 5 (notDst_spec (by kernel_rfl))]; rfl)
            · obtain rfl := Option.some.inj hi
              have h0 : a'.tmps.getD 69 undef = _ := pre_of hpre 0 69 (by kernel_rfl) (by kernel_rfl)
              refine sq_quiet 18 #[a'.tmps.getD 69 undef] rfl rfl (by kernel_rfl) (by decide) hS ?_
              rw [h0]
              exact (Bad_any w' p g o2 left2 bd (HRD.out.only ho (by simp) (by simp))).mono (by rintro e u ⟨rfl, rfl⟩; exact ⟨_, rfl, Only.refl _ _, (fun _ h => h), rfl⟩)
            · obtain rfl := Option.some.inj hi
              exact sq_value _ rfl rfl rfl (Below.refl _ _) (by decide) hS RB (by show a'.tmps.getD 6 undef = _; rw [inv.old 6 (notDst_spec (by kernel_rfl))]; rfl)
            · obtain rfl := Option.some.inj hi
              have h0 : a'.tmps.getD 71 undef = _ := pre_of hpre 2 71 (by kernel_rfl) (by kernel_rfl)
              exact sq_value _ rfl rfl (nil_run 71 _ rfl h0) (Below.refl _ _) (by decide) hS RB rfl
            · obtain rfl := Option.some.inj hi
              have h0 : a'.tmps.getD 72 undef = _ := pre_of hpre 3 72 (by kernel_rfl) (by kernel_rfl)
              exact sq_value _ rfl rfl (fa_run 40 2 72 q rfl h0 (fa40_2 q)) (Below.refl _ _) (by decide) hS RB rfl
            · obtain rfl := Option.some.inj hi
              have h0 : a'.tmps.getD 73 undef = _ := pre_of hpre 4 73 (by kernel_rfl) (by kernel_rfl)
              exact sq_value _ rfl rfl (load_run 4 73 q 2 _ rfl h0 (ld4 ((HRF.out.only ho (by simp)).cells.2.2.1))) (Below.refl _ _) (by decide) hS RB rfl
            · obtain rfl := Option.some.inj hi
              have h0 : a'.tmps.getD 70 undef = _ := pre_of hpre 1 70 (by kernel_rfl) (by kernel_rfl)
              have h1 : a'.tmps.getD 74 undef = _ := pre_of hpre 5 74 (by kernel_rfl) (by kernel_rfl)
              exact sq_value _ rfl rfl (neqB_run 70 74 _ _ rfl h0 h1) (Below.refl _ _) (by decide) hS RB (by show Value.bool _ = _; simp)
            · obtain rfl := Option.some.inj hi
              have h0 := pre_of hpre 6 75 (by kernel_rfl) (by kernel_rfl)
              exact sq_value _ rfl rfl (rfl) (Below.refl _ _) (by decide) hS RB h0
            · obtain rfl := Option.some.inj hi
              have hgu : a'.tmps.getD 76 undef = _ := pre_of hpre 7 76 (by kernel_rfl) (by kernel_rfl)
              exact sq_value _ rfl (wanted_of 7 76 false rfl (by kernel_rfl) hgu) rfl (Below.refl _ _) (by decide) hS RB (by show a'.tmps.getD 5 undef = _; rw [inv.old 5 (notDst_spec (by kernel_rfl))]; rfl)
            · obtain rfl := Option.some.inj hi
              have hgu : a'.tmps.getD 76 undef = _ := pre_of hpre 7 76 (by kernel_rfl) (by kernel_rfl)
              have h0 : a'.tmps.getD 77 undef = _ := pre_of hpre 8 77 (by kernel_rfl) (by kernel_rfl)
              refine sq_quiet 17 #[a'.tmps.getD 77 undef] rfl (wanted_of 7 76 false rfl (by kernel_rfl) hgu) (by kernel_rfl) (by decide) hS ?_
              rw [h0]
              exact (End_any w' p g o2 left2 bd (HRD.out.only ho (by simp) (by simp))).mono (by rintro e u ⟨rfl, rfl⟩; exact ⟨_, rfl, Only.refl _ _, (fun _ h => h), by rw [HE1.out]; rfl⟩)
            · obtain rfl := Option.some.inj hi
              have hgu : a'.tmps.getD 76 undef = _ := pre_of hpre 7 76 (by kernel_rfl) (by kernel_rfl)
              exact sq_value _ rfl (wanted_of 7 76 false rfl (by kernel_rfl) hgu) rfl (Below.refl _ _) (by decide) hS RB (by show a'.tmps.getD 6 undef = _; rw [inv.old 6 (notDst_spec (by kernel_rfl))]; rfl)
            · obtain rfl := Option.some.inj hi
              have hgu : a'.tmps.getD 76 undef = _ := pre_of hpre 7 76 (by kernel_rfl) (by kernel_rfl)
              have h0 : a'.tmps.getD 79 undef = _ := pre_of hpre 10 79 (by kernel_rfl) (by kernel_rfl)
              refine sq_quiet 21 #[a'.tmps.getD 79 undef] rfl (wanted_of 7 76 false rfl (by kernel_rfl) hgu) (by kernel_rfl) (by decide) hS ?_
              rw [h0]
              exact (REnd_any w' q at2 _ l bd (HRF.out.only ho (by simp)) (HSR.out w' ho)).mono (by rintro e u ⟨rfl, k, rfl⟩; exact ⟨_, rfl, Only.drewN _ _ _, (fun _ _ => trivial), by rw [HE2.out]; rfl⟩)
            · obtain rfl := Option.some.inj hi
              have hgu : a'.tmps.getD 76 undef = _ := pre_of hpre 7 76 (by kernel_rfl) (by kernel_rfl)
              have h0 : a'.tmps.getD 78 undef = _ := pre_of hpre 9 78 (by kernel_rfl) (by kernel_rfl)
              have h1 : a'.tmps.getD 80 undef = _ := pre_of hpre 11 80 (by kernel_rfl) (by kernel_rfl)
              exact sq_value _ rfl (wanted_of 7 76 false rfl (by kernel_rfl) hgu) (neqB_run 78 80 _ _ rfl h0 h1) (Below.refl _ _) (by decide) hS RB (by show Value.bool _ = _; simp)
            · obtain rfl := Option.some.inj hi
              have h0 : a'.tmps.getD 76 undef = _ := pre_of hpre 7 76 (by kernel_rfl) (by kernel_rfl)
              have h1 : a'.tmps.getD 81 undef = _ := pre_of hpre 12 81 (by kernel_rfl) (by kernel_rfl)
              exact sq_value _ rfl rfl (pick_run 76 false _ _ _ _ rfl h0 rfl h1) (Below.refl _ _) (by decide) hS RB rfl
          · intro a' w5 f inv hS hall hd
            have hk13 := hd 13 82 (by kernel_rfl)
            have ho : Only [] w4 w5 := inv.grow
            have hdf : a'.defers = [] := inv.defers
            have hsz : a'.tmps.size = 84 := inv.size
            have e := frame4_11 hsz (fun t ht => inv.old t (dstsIn_spec (ts := [69, 70, 71, 72, 73, 74, 75, 76, 77, 78, 79, 80, 81, 82]) (by kernel_rfl) t ht))
            have hR := hS.done (fun c hc => hall c (show c < 14 by simp at hc <;> omega))
            clear inv hd hsz hall hS
            obtain ⟨tmps, defers⟩ := a'
            obtain rfl : defers = [] := hdf
            replace e : tmps = _ := e
            replace hk13 : tmps.getD 82 undef = (.bool false) := hk13
            generalize tmps.getD 69 undef = x69 at *
            generalize tmps.getD 70 undef = x70 at *
            generalize tmps.getD 71 undef = x71 at *
            generalize tmps.getD 72 undef = x72 at *
            generalize tmps.getD 73 undef = x73 at *
            generalize tmps.getD 74 undef = x74 at *
            generalize tmps.getD 75 undef = x75 at *
            generalize tmps.getD 76 undef = x76 at *
            generalize tmps.getD 77 undef = x77 at *
            generalize tmps.getD 78 undef = x78 at *
            generalize tmps.getD 79 undef = x79 at *
            generalize tmps.getD 80 undef = x80 at *
            generalize tmps.getD 81 undef = x81 at *
            generalize tmps.getD 82 undef = x82 at *
            simp only [Array.getD_eq_getD_getElem?, List.getElem?_toArray, List.getElem?_cons_succ, List.getElem?_cons_zero, Option.getD_some] at e
            subst e
            subst hk13
            have HLN : Hid (Loop4 w w5 p g q (.slice a n c) l) := ⟨HB4.out.trans (ho.below HB4.out.size (by simp)), o2, at2, left2, bd, HRD.out.only ho (by simp) (by simp), HRF.out.only ho (by simp), HBO.out⟩
            clear hR ho RB HRD HRF HB4 HSR HE1 HE2 HBO
            go_wp2_with fail
            go_roundw
            case rel =>
              first
                | exact ⟨j + 1, by omega, by go_num, HLN.out⟩
                | ((repeat apply Exists.intro)
                   refine ⟨⟨j + 1, by omega, ?_, HLN.out⟩, rfl⟩
                   go_num)
            case measure => simp [intOf]; omega
      | false =>
        obtain ⟨x, o2, at2, left2, bd, ha2, hf2, ht2, hc1, hc2⟩ := num_both p g q (.slice a n c) l o at_ left bad least most (by rw [HL.out]; exact hn) hat hlf hlt2
        have hAl : Below wr.heap.size wr (wr.alloc (Obj.cells #[.bool false, .int .i64 least, .int .i64 most] 42)) := (Below.refl _ wr).alloc (Nat.le_refl _) _
        have hB1 : Below w.heap.size w (wr.alloc (Obj.cells #[.bool false, .int .i64 least, .int .i64 most] 42)) := hbel.trans (bel_le hAl hbel.size)
        have hWb : ∀ w', Only [p, q] (wr.alloc (Obj.cells #[.bool false, .int .i64 least, .int .i64 most] 42)) w' → Below w.heap.size w w' := fun w' ho => hB1.trans (ho.below hB1.size (by have := HD.out.2.2; simp; omega))
        have hnew := heap_alloc_new wr (Obj.cells #[.bool false, .int .i64 least, .int .i64 most] 42)
        have HAB : Hid (∀ w', Only [p, q] (wr.alloc (Obj.cells #[.bool false, .int .i64 least, .int .i64 most] 42)) w' → w'.cell? ⟨wr.heap.size, 0, none⟩ = some (.bool false) ∧ w'.cell? ⟨wr.heap.size, 1, none⟩ = some (.int .i64 least) ∧ w'.cell? ⟨wr.heap.size, 2, none⟩ = some (.int .i64 most)) := fun w' ho => by
          have hW := (ho.block wr.heap.size (Array.getElem?_eq_some_iff.1 hnew).1 (by have := HP.out; simp; omega)).trans hnew
          refine ⟨?_, ?_, ?_⟩ <;> (rw [cell_of_row _ _ _ _ _ _ hW]; rfl)
        have HC1 : Hid (∀ w', Only [p, q] (wr.alloc (Obj.cells #[.bool false, .int .i64 least, .int .i64 most] 42)) w' → (RdAt w' p g o left bad ∧ RfAt w' q (.slice a n c) at_ bad) → Calls Try.prog 16 #[.pointer (some ⟨p, 0, none⟩), .int .i64 least, .int .i64 most] w' fun e w2 => ∃ v, e = .returned v ∧ Only [p, q] w' w2 ∧ (RdAt w2 p g o2 left2 bd ∧ RfAt w2 q (.slice a n c) at_ bad) ∧ IsV (.int .i64 x) v w2) := fun w' ho hR =>
          (hc1 w' hR.1).mono (by rintro e u ⟨rfl, h2, h3⟩; exact ⟨_, rfl, h3.more (by simp), ⟨h2, hR.2.only h3 (by simpa using Ne.symm HD.out.1)⟩, rfl⟩)
        have HC2 : Hid (∀ w', Only [p, q] (wr.alloc (Obj.cells #[.bool false, .int .i64 least, .int .i64 most] 42)) w' → (RdAt w' p g o2 left2 bd ∧ RfAt w' q (.slice a n c) at_ bad) → Calls Try.prog 20 #[.pointer (some ⟨q, 0, none⟩), .int .i64 least, .int .i64 most] w' fun e w2 => ∃ v, e = .returned v ∧ Only [p, q] w' w2 ∧ (RdAt w2 p g o2 left2 bd ∧ RfAt w2 q (.slice a n c) at2 bd) ∧ IsV (.int .i64 x) v w2) := fun w' ho hR =>
          (hc2 w' hR.2 (hsrc w' (hWb w' ho))).mono (by
            rintro e u ⟨rfl, h2, h3⟩
            refine ⟨_, rfl, h3.more (by simp), ⟨hR.1.kept2 (h3.block p hR.1.lt (by simpa using HD.out.1)) (fun h0 => h3.block g (hR.1.glt h0) ?_), h2⟩, rfl⟩
            have h5 := HD.out.2.1 (fun e => h0 (by cases bd with | true => exact ht2 rfl | false => rw [hf2 rfl, e]; simp))
            simpa using h5)
        have HR0 : Hid (RdAt (wr.alloc (Obj.cells #[.bool false, .int .i64 least, .int .i64 most] 42)) p g o left bad ∧ RfAt (wr.alloc (Obj.cells #[.bool false, .int .i64 least, .int .i64 most] 42)) q (.slice a n c) at_ bad) := ⟨hrd.below hAl, hrf.below hAl⟩
        have HWB : Hid (∀ w', Only [p, q] (wr.alloc (Obj.cells #[.bool false, .int .i64 least, .int .i64 most] 42)) w' → Below w.heap.size w w') := hWb
        have HBO : Hid (at2 ≤ l.length ∧ (bd = false → left2 = l.drop at2) ∧ (bd = true → left2 = [])) := ⟨ha2, hf2, ht2⟩
        have HSRC : Hid (∀ W, Below w.heap.size w W → Src W (.slice a n c) l) := hsrc
        clear hc1 hc2 hAl hB1 hWb hnew ha2 hf2 ht2 hrd hrf hlf hlt2 hat hbel
        go_wp2_with fail
        clear d0 d1 d2
        generalize wr.alloc (Obj.cells #[.bool false, .int .i64 least, .int .i64 most] 42) = W1 at *
        generalize wr.heap.size = ab at *
        have RB : ∀ k w w', Below w.heap.size w w' → (fun k u => match k with | 0 => RdAt u p g o left bad ∧ RfAt u q (.slice a n c) at_ bad | 1 => RdAt u p g o2 left2 bd ∧ RfAt u q (.slice a n c) at_ bad | _ => RdAt u p g o2 left2 bd ∧ RfAt u q (.slice a n c) at2 bd) k w → (fun k u => match k with | 0 => RdAt u p g o left bad ∧ RfAt u q (.slice a n c) at_ bad | 1 => RdAt u p g o2 left2 bd ∧ RfAt u q (.slice a n c) at_ bad | _ => RdAt u p g o2 left2 bd ∧ RfAt u q (.slice a n c) at2 bd) k w' := fun k u u' hb h => by match k with | 0 => exact ⟨h.1.below hb, h.2.below hb⟩ | 1 => exact ⟨h.1.below hb, h.2.below hb⟩ | _ + 2 => exact ⟨h.1.below hb, h.2.below hb⟩
        refine wp_region_st (rn9 p q ab least most x) (fun u u' => Only [p, q] u u') (SeqS [29, 35] (fun k u => match k with | 0 => RdAt u p g o left bad ∧ RfAt u q (.slice a n c) at_ bad | 1 => RdAt u p g o2 left2 bd ∧ RfAt u q (.slice a n c) at_ bad | _ => RdAt u p g o2 left2 bd ∧ RfAt u q (.slice a n c) at2 bd)) (by kernel_rfl) (only_drew _ _) (only_trans _) (rn9_kept p q ab least most x) (by kernel_rfl) (SeqS.start (⟨HR0.out.1.below (below_drewN 1 _ _), HR0.out.2.below (below_drewN 1 _ _)⟩)) ?_ ?_
        · intro i o a' w' f hi inv hS hfi hfw hpre
          have ho : Only [p, q] W1 w' := inv.grow
          have hlt : i < 39 := (Array.getElem?_eq_some_iff.1 hi).1
          obtain rfl|rfl|rfl|rfl|rfl|rfl|rfl|rfl|rfl|rfl|rfl|rfl|rfl|rfl|rfl|rfl|rfl|rfl|rfl|rfl|rfl|rfl|rfl|rfl|rfl|rfl|rfl|rfl|rfl|rfl|rfl|rfl|rfl|rfl|rfl|rfl|rfl|rfl|rfl : i = 0 ∨ i = 1 ∨ i = 2 ∨ i = 3 ∨ i = 4 ∨ i = 5 ∨ i = 6 ∨ i = 7 ∨ i = 8 ∨ i = 9 ∨ i = 10 ∨ i = 11 ∨ i = 12 ∨ i = 13 ∨ i = 14 ∨ i = 15 ∨ i = 16 ∨ i = 17 ∨ i = 18 ∨ i = 19 ∨ i = 20 ∨ i = 21 ∨ i = 22 ∨ i = 23 ∨ i = 24 ∨ i = 25 ∨ i = 26 ∨ i = 27 ∨ i = 28 ∨ i = 29 ∨ i = 30 ∨ i = 31 ∨ i = 32 ∨ i = 33 ∨ i = 34 ∨ i = 35 ∨ i = 36 ∨ i = 37 ∨ i = 38 := by omega
          · obtain rfl := Option.some.inj hi
            have h0 : a'.tmps.getD 8 undef = (.pointer (some ⟨ab, 0, none⟩)) := by rw [inv.old 8 (notDst_spec (by kernel_rfl))]; rfl
            exact sq_value _ rfl rfl (fa_run 42 0 8 ab rfl h0 (fa42_0 ab)) (Below.refl _ _) (by decide) hS RB rfl
          · obtain rfl := Option.some.inj hi
            have h0 : a'.tmps.getD 30 undef = _ := pre_of hpre 0 30 (by kernel_rfl) (by kernel_rfl)
            exact sq_value _ rfl rfl (load_run 4 30 ab 0 _ rfl h0 (ld4 ((HAB.out w' ho).1))) (Below.refl _ _) (by decide) hS RB rfl
          · obtain rfl := Option.some.inj hi
            have h0 := pre_of hpre 1 31 (by kernel_rfl) (by kernel_rfl)
            exact sq_value _ rfl rfl (rfl) (Below.refl _ _) (by decide) hS RB h0
          · obtain rfl := Option.some.inj hi
            have hgu : a'.tmps.getD 32 undef = _ := pre_of hpre 2 32 (by kernel_rfl) (by kernel_rfl)
            exact sq_skip rfl (unwanted_of 2 32 false rfl (by kernel_rfl) hgu) (by decide) hS rfl
          · obtain rfl := Option.some.inj hi
            have hgu : a'.tmps.getD 32 undef = _ := pre_of hpre 2 32 (by kernel_rfl) (by kernel_rfl)
            exact sq_skip rfl (unwanted_of 2 32 false rfl (by kernel_rfl) hgu) (by decide) hS rfl
          · obtain rfl := Option.some.inj hi
            have hgu : a'.tmps.getD 32 undef = _ := pre_of hpre 2 32 (by kernel_rfl) (by kernel_rfl)
            exact sq_skip rfl (unwanted_of 2 32 false rfl (by kernel_rfl) hgu) (by decide) hS rfl
          · obtain rfl := Option.some.inj hi
            have hgu : a'.tmps.getD 32 undef = _ := pre_of hpre 2 32 (by kernel_rfl) (by kernel_rfl)
            exact sq_skip rfl (unwanted_of 2 32 false rfl (by kernel_rfl) hgu) (by decide) hS rfl
          · obtain rfl := Option.some.inj hi
            have hgu : a'.tmps.getD 32 undef = _ := pre_of hpre 2 32 (by kernel_rfl) (by kernel_rfl)
            exact sq_skip rfl (unwanted_of 2 32 false rfl (by kernel_rfl) hgu) (by decide) hS rfl
          · obtain rfl := Option.some.inj hi
            have hgu : a'.tmps.getD 32 undef = _ := pre_of hpre 2 32 (by kernel_rfl) (by kernel_rfl)
            exact sq_skip rfl (unwanted_of 2 32 false rfl (by kernel_rfl) hgu) (by decide) hS rfl
          · obtain rfl := Option.some.inj hi
            have hgu : a'.tmps.getD 32 undef = _ := pre_of hpre 2 32 (by kernel_rfl) (by kernel_rfl)
            exact sq_skip rfl (unwanted_of 2 32 false rfl (by kernel_rfl) hgu) (by decide) hS rfl
          · obtain rfl := Option.some.inj hi
            have hgu : a'.tmps.getD 32 undef = _ := pre_of hpre 2 32 (by kernel_rfl) (by kernel_rfl)
            exact sq_skip rfl (unwanted_of 2 32 false rfl (by kernel_rfl) hgu) (by decide) hS rfl
          · obtain rfl := Option.some.inj hi
            have hgu : a'.tmps.getD 32 undef = _ := pre_of hpre 2 32 (by kernel_rfl) (by kernel_rfl)
            exact sq_skip rfl (unwanted_of 2 32 false rfl (by kernel_rfl) hgu) (by decide) hS rfl
          · obtain rfl := Option.some.inj hi
            have hgu : a'.tmps.getD 32 undef = _ := pre_of hpre 2 32 (by kernel_rfl) (by kernel_rfl)
            exact sq_skip rfl (unwanted_of 2 32 false rfl (by kernel_rfl) hgu) (by decide) hS rfl
          · obtain rfl := Option.some.inj hi
            have hgu : a'.tmps.getD 32 undef = _ := pre_of hpre 2 32 (by kernel_rfl) (by kernel_rfl)
            exact sq_skip rfl (unwanted_of 2 32 false rfl (by kernel_rfl) hgu) (by decide) hS rfl
          · obtain rfl := Option.some.inj hi
            have hgu : a'.tmps.getD 32 undef = _ := pre_of hpre 2 32 (by kernel_rfl) (by kernel_rfl)
            exact sq_skip rfl (unwanted_of 2 32 false rfl (by kernel_rfl) hgu) (by decide) hS rfl
          · obtain rfl := Option.some.inj hi
            have hgu : a'.tmps.getD 32 undef = _ := pre_of hpre 2 32 (by kernel_rfl) (by kernel_rfl)
            exact sq_skip rfl (unwanted_of 2 32 false rfl (by kernel_rfl) hgu) (by decide) hS rfl
          · obtain rfl := Option.some.inj hi
            have hgu : a'.tmps.getD 32 undef = _ := pre_of hpre 2 32 (by kernel_rfl) (by kernel_rfl)
            exact sq_skip rfl (unwanted_of 2 32 false rfl (by kernel_rfl) hgu) (by decide) hS rfl
          · obtain rfl := Option.some.inj hi
            have hgu : a'.tmps.getD 32 undef = _ := pre_of hpre 2 32 (by kernel_rfl) (by kernel_rfl)
            exact sq_skip rfl (unwanted_of 2 32 false rfl (by kernel_rfl) hgu) (by decide) hS rfl
          · obtain rfl := Option.some.inj hi
            have h0 : a'.tmps.getD 32 undef = _ := pre_of hpre 2 32 (by kernel_rfl) (by kernel_rfl)
            exact sq_value _ rfl rfl (pick_run 32 false _ _ _ _ rfl h0 rfl rfl) (Below.refl _ _) (by decide) hS RB rfl
          · obtain rfl := Option.some.inj hi
            have h0 := pre_of hpre 18 48 (by kernel_rfl) (by kernel_rfl)
            exact sq_value _ rfl rfl (rfl) (Below.refl _ _) (by decide) hS RB h0
          · obtain rfl := Option.some.inj hi
            have hgu : a'.tmps.getD 49 undef = _ := pre_of hpre 19 49 (by kernel_rfl) (by kernel_rfl)
            have h0 : a'.tmps.getD 8 undef = (.pointer (some ⟨ab, 0, none⟩)) := by rw [inv.old 8 (notDst_spec (by kernel_rfl))]; rfl
            exact sq_value _ rfl (wanted_of 19 49 false rfl (by kernel_rfl) hgu) (fa_run 42 0 8 ab rfl h0 (fa42_0 ab)) (Below.refl _ _) (by decide) hS RB rfl
          · obtain rfl := Option.some.inj hi
            have hgu : a'.tmps.getD 49 undef = _ := pre_of hpre 19 49 (by kernel_rfl) (by kernel_rfl)
            have h0 : a'.tmps.getD 50 undef = _ := pre_of hpre 20 50 (by kernel_rfl) (by kernel_rfl)
            exact sq_value _ rfl (wanted_of 19 49 false rfl (by kernel_rfl) hgu) (load_run 4 50 ab 0 _ rfl h0 (ld4 ((HAB.out w' ho).1))) (Below.refl _ _) (by decide) hS RB rfl
          · obtain rfl := Option.some.inj hi
            have hgu : a'.tmps.getD 49 undef = _ := pre_of hpre 19 49 (by kernel_rfl) (by kernel_rfl)
            have h0 : a'.tmps.getD 51 undef = _ := pre_of hpre 21 51 (by kernel_rfl) (by kernel_rfl)
            exact sq_value _ rfl (wanted_of 19 49 false rfl (by kernel_rfl) hgu) (not_run 51 false rfl h0) (Below.refl _ _) (by decide) hS RB rfl
          · obtain rfl := Option.some.inj hi
            have hgu : a'.tmps.getD 49 undef = _ := pre_of hpre 19 49 (by kernel_rfl) (by kernel_rfl)
            have h0 := pre_of hpre 22 52 (by kernel_rfl) (by kernel_rfl)
            exact sq_value _ rfl (wanted_of 19 49 false rfl (by kernel_rfl) hgu) (rfl) (Below.refl _ _) (by decide) hS RB h0
          · obtain rfl := Option.some.inj hi
            have hgu : a'.tmps.getD 53 undef = _ := pre_of hpre 23 53 (by kernel_rfl) (by kernel_rfl)
            exact sq_value _ rfl (wanted_of 23 53 true rfl (by kernel_rfl) hgu) rfl (Below.refl _ _) (by decide) hS RB (by show a'.tmps.getD 5 undef = _; rw [inv.old 5 (notDst_spec (by kernel_rfl))]; rfl)
          · obtain rfl := Option.some.inj hi
            have hgu : a'.tmps.getD 53 undef = _ := pre_of hpre 23 53 (by kernel_rfl) (by kernel_rfl)
            have h0 : a'.tmps.getD 8 undef = (.pointer (some ⟨ab, 0, none⟩)) := by rw [inv.old 8 (notDst_spec (by kernel_rfl))]; rfl
            exact sq_value _ rfl (wanted_of 23 53 true rfl (by kernel_rfl) hgu) (fa_run 42 1 8 ab rfl h0 (fa42_1 ab)) (Below.refl _ _) (by decide) hS RB rfl
          · obtain rfl := Option.some.inj hi
            have hgu : a'.tmps.getD 53 undef = _ := pre_of hpre 23 53 (by kernel_rfl) (by kernel_rfl)
            have h0 : a'.tmps.getD 55 undef = _ := pre_of hpre 25 55 (by kernel_rfl) (by kernel_rfl)
            exact sq_value _ rfl (wanted_of 23 53 true rfl (by kernel_rfl) hgu) (load_run 3 55 ab 1 _ rfl h0 (ld3 ((HAB.out w' ho).2.1))) (Below.refl _ _) (by decide) hS RB rfl
          · obtain rfl := Option.some.inj hi
            have hgu : a'.tmps.getD 53 undef = _ := pre_of hpre 23 53 (by kernel_rfl) (by kernel_rfl)
            have h0 : a'.tmps.getD 8 undef = (.pointer (some ⟨ab, 0, none⟩)) := by rw [inv.old 8 (notDst_spec (by kernel_rfl))]; rfl
            exact sq_value _ rfl (wanted_of 23 53 true rfl (by kernel_rfl) hgu) (fa_run 42 2 8 ab rfl h0 (fa42_2 ab)) (Below.refl _ _) (by decide) hS RB rfl
          · obtain rfl := Option.some.inj hi
            have hgu : a'.tmps.getD 53 undef = _ := pre_of hpre 23 53 (by kernel_rfl) (by kernel_rfl)
            have h0 : a'.tmps.getD 57 undef = _ := pre_of hpre 27 57 (by kernel_rfl) (by kernel_rfl)
            exact sq_value _ rfl (wanted_of 23 53 true rfl (by kernel_rfl) hgu) (load_run 3 57 ab 2 _ rfl h0 (ld3 ((HAB.out w' ho).2.2))) (Below.refl _ _) (by decide) hS RB rfl
          · obtain rfl := Option.some.inj hi
            have hgu : a'.tmps.getD 53 undef = _ := pre_of hpre 23 53 (by kernel_rfl) (by kernel_rfl)
            have h0 : a'.tmps.getD 54 undef = _ := pre_of hpre 24 54 (by kernel_rfl) (by kernel_rfl)
            have h1 : a'.tmps.getD 56 undef = _ := pre_of hpre 26 56 (by kernel_rfl) (by kernel_rfl)
            have h2 : a'.tmps.getD 58 undef = _ := pre_of hpre 28 58 (by kernel_rfl) (by kernel_rfl)
            refine sq_call (k := 0) 16 #[a'.tmps.getD 54 undef, a'.tmps.getD 56 undef, a'.tmps.getD 58 undef] rfl (wanted_of 23 53 true rfl (by kernel_rfl) hgu) (by kernel_rfl) rfl (by decide) hfi (fun c h _ => absurd rfl h) hS (fun hR => ?_)
            rw [h0, h1, h2]
            exact HC1.out w' ho hR
          · obtain rfl := Option.some.inj hi
            have hgu : a'.tmps.getD 53 undef = _ := pre_of hpre 23 53 (by kernel_rfl) (by kernel_rfl)
            exact sq_value _ rfl (wanted_of 23 53 true rfl (by kernel_rfl) hgu) rfl (Below.refl _ _) (by decide) hS RB (by show a'.tmps.getD 6 undef = _; rw [inv.old 6 (notDst_spec (by kernel_rfl))]; rfl)
          · obtain rfl := Option.some.inj hi
            have hgu : a'.tmps.getD 53 undef = _ := pre_of hpre 23 53 (by kernel_rfl) (by kernel_rfl)
            have h0 : a'.tmps.getD 8 undef = (.pointer (some ⟨ab, 0, none⟩)) := by rw [inv.old 8 (notDst_spec (by kernel_rfl))]; rfl
            exact sq_value _ rfl (wanted_of 23 53 true rfl (by kernel_rfl) hgu) (fa_run 42 1 8 ab rfl h0 (fa42_1 ab)) (Below.refl _ _) (by decide) hS RB rfl
          · obtain rfl := Option.some.inj hi
            have hgu : a'.tmps.getD 53 undef = _ := pre_of hpre 23 53 (by kernel_rfl) (by kernel_rfl)
            have h0 : a'.tmps.getD 61 undef = _ := pre_of hpre 31 61 (by kernel_rfl) (by kernel_rfl)
            exact sq_value _ rfl (wanted_of 23 53 true rfl (by kernel_rfl) hgu) (load_run 3 61 ab 1 _ rfl h0 (ld3 ((HAB.out w' ho).2.1))) (Below.refl _ _) (by decide) hS RB rfl
          · obtain rfl := Option.some.inj hi
            have hgu : a'.tmps.getD 53 undef = _ := pre_of hpre 23 53 (by kernel_rfl) (by kernel_rfl)
            have h0 : a'.tmps.getD 8 undef = (.pointer (some ⟨ab, 0, none⟩)) := by rw [inv.old 8 (notDst_spec (by kernel_rfl))]; rfl
            exact sq_value _ rfl (wanted_of 23 53 true rfl (by kernel_rfl) hgu) (fa_run 42 2 8 ab rfl h0 (fa42_2 ab)) (Below.refl _ _) (by decide) hS RB rfl
          · obtain rfl := Option.some.inj hi
            have hgu : a'.tmps.getD 53 undef = _ := pre_of hpre 23 53 (by kernel_rfl) (by kernel_rfl)
            have h0 : a'.tmps.getD 63 undef = _ := pre_of hpre 33 63 (by kernel_rfl) (by kernel_rfl)
            exact sq_value _ rfl (wanted_of 23 53 true rfl (by kernel_rfl) hgu) (load_run 3 63 ab 2 _ rfl h0 (ld3 ((HAB.out w' ho).2.2))) (Below.refl _ _) (by decide) hS RB rfl
          · obtain rfl := Option.some.inj hi
            have hgu : a'.tmps.getD 53 undef = _ := pre_of hpre 23 53 (by kernel_rfl) (by kernel_rfl)
            have h0 : a'.tmps.getD 60 undef = _ := pre_of hpre 30 60 (by kernel_rfl) (by kernel_rfl)
            have h1 : a'.tmps.getD 62 undef = _ := pre_of hpre 32 62 (by kernel_rfl) (by kernel_rfl)
            have h2 : a'.tmps.getD 64 undef = _ := pre_of hpre 34 64 (by kernel_rfl) (by kernel_rfl)
            refine sq_call (k := 1) 20 #[a'.tmps.getD 60 undef, a'.tmps.getD 62 undef, a'.tmps.getD 64 undef] rfl (wanted_of 23 53 true rfl (by kernel_rfl) hgu) (by kernel_rfl) rfl (by decide) hfi (fun c _ hc => by cases hc; exact been_of hfw 29 (by kernel_rfl)) hS (fun hR => ?_)
            rw [h0, h1, h2]
            exact HC2.out w' ho hR
          · obtain rfl := Option.some.inj hi
            have hgu : a'.tmps.getD 53 undef = _ := pre_of hpre 23 53 (by kernel_rfl) (by kernel_rfl)
            have h0 : a'.tmps.getD 59 undef = _ := pre_of hpre 29 59 (by kernel_rfl) (by kernel_rfl)
            have h1 : a'.tmps.getD 65 undef = _ := pre_of hpre 35 65 (by kernel_rfl) (by kernel_rfl)
            exact sq_value _ rfl (wanted_of 23 53 true rfl (by kernel_rfl) hgu) (neqN_run 59 65 _ _ rfl h0 h1) (Below.refl _ _) (by decide) hS RB (by show Value.bool _ = _; simp)
          · obtain rfl := Option.some.inj hi
            have hgu : a'.tmps.getD 49 undef = _ := pre_of hpre 19 49 (by kernel_rfl) (by kernel_rfl)
            have h0 : a'.tmps.getD 53 undef = _ := pre_of hpre 23 53 (by kernel_rfl) (by kernel_rfl)
            have h1 : a'.tmps.getD 66 undef = _ := pre_of hpre 36 66 (by kernel_rfl) (by kernel_rfl)
            exact sq_value _ rfl (wanted_of 19 49 false rfl (by kernel_rfl) hgu) (pick_run 53 true _ _ _ _ rfl h0 h1 rfl) (Below.refl _ _) (by decide) hS RB rfl
          · obtain rfl := Option.some.inj hi
            have h0 : a'.tmps.getD 49 undef = _ := pre_of hpre 19 49 (by kernel_rfl) (by kernel_rfl)
            have h1 : a'.tmps.getD 67 undef = _ := pre_of hpre 37 67 (by kernel_rfl) (by kernel_rfl)
            exact sq_value _ rfl rfl (pick_run 49 false _ _ _ _ rfl h0 rfl h1) (Below.refl _ _) (by decide) hS RB rfl
        · intro a' w4 f inv hS hall hd
          have hk38 := hd 38 68 (by kernel_rfl)
          have ho : Only [p, q] W1 w4 := inv.grow
          have hdf : a'.defers = [] := inv.defers
          have hsz : a'.tmps.size = 84 := inv.size
          have e := frame4_9 hsz (fun t ht => inv.old t (dstsIn_spec (ts := [30, 31, 32, 33, 34, 35, 36, 37, 38, 39, 40, 41, 42, 43, 44, 45, 46, 47, 48, 49, 50, 51, 52, 53, 54, 55, 56, 57, 58, 59, 60, 61, 62, 63, 64, 65, 66, 67, 68]) (by kernel_rfl) t ht))
          have hR := hS.done (fun c hc => hall c (show c < 39 by simp at hc <;> omega))
          clear inv hd hsz hall hS
          obtain ⟨tmps, defers⟩ := a'
          obtain rfl : defers = [] := hdf
          replace e : tmps = _ := e
          replace hk38 : tmps.getD 68 undef = (.bool false) := hk38
          generalize tmps.getD 30 undef = x30 at *
          generalize tmps.getD 31 undef = x31 at *
          generalize tmps.getD 32 undef = x32 at *
          generalize tmps.getD 33 undef = x33 at *
          generalize tmps.getD 34 undef = x34 at *
          generalize tmps.getD 35 undef = x35 at *
          generalize tmps.getD 36 undef = x36 at *
          generalize tmps.getD 37 undef = x37 at *
          generalize tmps.getD 38 undef = x38 at *
          generalize tmps.getD 39 undef = x39 at *
          generalize tmps.getD 40 undef = x40 at *
          generalize tmps.getD 41 undef = x41 at *
          generalize tmps.getD 42 undef = x42 at *
          generalize tmps.getD 43 undef = x43 at *
          generalize tmps.getD 44 undef = x44 at *
          generalize tmps.getD 45 undef = x45 at *
          generalize tmps.getD 46 undef = x46 at *
          generalize tmps.getD 47 undef = x47 at *
          generalize tmps.getD 48 undef = x48 at *
          generalize tmps.getD 49 undef = x49 at *
          generalize tmps.getD 50 undef = x50 at *
          generalize tmps.getD 51 undef = x51 at *
          generalize tmps.getD 52 undef = x52 at *
          generalize tmps.getD 53 undef = x53 at *
          generalize tmps.getD 54 undef = x54 at *
          generalize tmps.getD 55 undef = x55 at *
          generalize tmps.getD 56 undef = x56 at *
          generalize tmps.getD 57 undef = x57 at *
          generalize tmps.getD 58 undef = x58 at *
          generalize tmps.getD 59 undef = x59 at *
          generalize tmps.getD 60 undef = x60 at *
          generalize tmps.getD 61 undef = x61 at *
          generalize tmps.getD 62 undef = x62 at *
          generalize tmps.getD 63 undef = x63 at *
          generalize tmps.getD 64 undef = x64 at *
          generalize tmps.getD 65 undef = x65 at *
          generalize tmps.getD 66 undef = x66 at *
          generalize tmps.getD 67 undef = x67 at *
          generalize tmps.getD 68 undef = x68 at *
          simp only [Array.getD_eq_getD_getElem?, List.getElem?_toArray, List.getElem?_cons_succ, List.getElem?_cons_zero, Option.getD_some] at e
          subst e
          subst hk38
          have HRD : Hid (RdAt w4 p g o2 left2 bd) := hR.1
          have HRF : Hid (RfAt w4 q (.slice a n c) at2 bd) := hR.2
          have HB4 : Hid (Below w.heap.size w w4) := HWB.out w4 ho
          have HSR : Hid (∀ u, Only [] w4 u → Src u (.slice a n c) l) := fun u hu => HSRC.out u (HB4.out.trans (hu.below HB4.out.size (by simp)))
          obtain ⟨en, HE2⟩ : ∃ en, Hid ((!bd && decide (at2 = l.length)) = en) := ⟨_, rfl⟩
          have HE1 : Hid ((!bd && decide (left2.length = 0)) = en) := by
            show _ = _
            rw [← HE2.out]
            cases bd with
            | true => rfl
            | false =>
              obtain ⟨h1, h2, _⟩ := HBO.out
              rw [h2 rfl, List.length_drop]
              congr 1
              simp
              omega
          clear hR ho HC1 HC2 HR0 HWB HAB RB HSRC
          go_wp2_with fail
          have RB : ∀ k w w', Below w.heap.size w w' → (fun (_ : Nat) (_ : World) => True) k w → (fun (_ : Nat) (_ : World) => True) k w' := fun _ _ _ _ _ => trivial
          refine wp_region_st (re11 p q bd en) (fun u u' => Only [] u u') (SeqS [] (fun (_ : Nat) (_ : World) => True)) (by kernel_rfl) (only_drew _ _) (only_trans _) (re11_kept p q bd en) (by kernel_rfl) (SeqS.start (trivial)) ?_ ?_
          · intro i o a' w' f hi inv hS hfi hfw hpre
            have ho : Only [] w4 w' := inv.grow
            have hlt : i < 14 := (Array.getElem?_eq_some_iff.1 hi).1
            obtain rfl|rfl|rfl|rfl|rfl|rfl|rfl|rfl|rfl|rfl|rfl|rfl|rfl|rfl : i = 0 ∨ i = 1 ∨ i = 2 ∨ i = 3 ∨ i = 4 ∨ i = 5 ∨ i = 6 ∨ i = 7 ∨ i = 8 ∨ i = 9 ∨ i = 10 ∨ i = 11 ∨ i = 12 ∨ i = 13 := by omega
            · obtain rfl := Option.some.inj hi
              exact sq_value _ rfl rfl rfl (Below.refl _ _) (by decide) hS RB (by show a'.tmps.getD 5 undef = _; rw [inv.old 5 (notDst_spec (by kernel_rfl))]; rfl)
            · obtain rfl := Option.some.inj hi
              have h0 : a'.tmps.getD 69 undef = _ := pre_of hpre 0 69 (by kernel_rfl) (by kernel_rfl)
              refine sq_quiet 18 #[a'.tmps.getD 69 undef] rfl rfl (by kernel_rfl) (by decide) hS ?_
              rw [h0]
              exact (Bad_any w' p g o2 left2 bd (HRD.out.only ho (by simp) (by simp))).mono (by rintro e u ⟨rfl, rfl⟩; exact ⟨_, rfl, Only.refl _ _, (fun _ h => h), rfl⟩)
            · obtain rfl := Option.some.inj hi
              exact sq_value _ rfl rfl rfl (Below.refl _ _) (by decide) hS RB (by show a'.tmps.getD 6 undef = _; rw [inv.old 6 (notDst_spec (by kernel_rfl))]; rfl)
            · obtain rfl := Option.some.inj hi
              have h0 : a'.tmps.getD 71 undef = _ := pre_of hpre 2 71 (by kernel_rfl) (by kernel_rfl)
              exact sq_value _ rfl rfl (nil_run 71 _ rfl h0) (Below.refl _ _) (by decide) hS RB rfl
            · obtain rfl := Option.some.inj hi
              have h0 : a'.tmps.getD 72 undef = _ := pre_of hpre 3 72 (by kernel_rfl) (by kernel_rfl)
              exact sq_value _ rfl rfl (fa_run 40 2 72 q rfl h0 (fa40_2 q)) (Below.refl _ _) (by decide) hS RB rfl
            · obtain rfl := Option.some.inj hi
              have h0 : a'.tmps.getD 73 undef = _ := pre_of hpre 4 73 (by kernel_rfl) (by kernel_rfl)
              exact sq_value _ rfl rfl (load_run 4 73 q 2 _ rfl h0 (ld4 ((HRF.out.only ho (by simp)).cells.2.2.1))) (Below.refl _ _) (by decide) hS RB rfl
            · obtain rfl := Option.some.inj hi
              have h0 : a'.tmps.getD 70 undef = _ := pre_of hpre 1 70 (by kernel_rfl) (by kernel_rfl)
              have h1 : a'.tmps.getD 74 undef = _ := pre_of hpre 5 74 (by kernel_rfl) (by kernel_rfl)
              exact sq_value _ rfl rfl (neqB_run 70 74 _ _ rfl h0 h1) (Below.refl _ _) (by decide) hS RB (by show Value.bool _ = _; simp)
            · obtain rfl := Option.some.inj hi
              have h0 := pre_of hpre 6 75 (by kernel_rfl) (by kernel_rfl)
              exact sq_value _ rfl rfl (rfl) (Below.refl _ _) (by decide) hS RB h0
            · obtain rfl := Option.some.inj hi
              have hgu : a'.tmps.getD 76 undef = _ := pre_of hpre 7 76 (by kernel_rfl) (by kernel_rfl)
              exact sq_value _ rfl (wanted_of 7 76 false rfl (by kernel_rfl) hgu) rfl (Below.refl _ _) (by decide) hS RB (by show a'.tmps.getD 5 undef = _; rw [inv.old 5 (notDst_spec (by kernel_rfl))]; rfl)
            · obtain rfl := Option.some.inj hi
              have hgu : a'.tmps.getD 76 undef = _ := pre_of hpre 7 76 (by kernel_rfl) (by kernel_rfl)
              have h0 : a'.tmps.getD 77 undef = _ := pre_of hpre 8 77 (by kernel_rfl) (by kernel_rfl)
              refine sq_quiet 17 #[a'.tmps.getD 77 undef] rfl (wanted_of 7 76 false rfl (by kernel_rfl) hgu) (by kernel_rfl) (by decide) hS ?_
              rw [h0]
              exact (End_any w' p g o2 left2 bd (HRD.out.only ho (by simp) (by simp))).mono (by rintro e u ⟨rfl, rfl⟩; exact ⟨_, rfl, Only.refl _ _, (fun _ h => h), by rw [HE1.out]; rfl⟩)
            · obtain rfl := Option.some.inj hi
              have hgu : a'.tmps.getD 76 undef = _ := pre_of hpre 7 76 (by kernel_rfl) (by kernel_rfl)
              exact sq_value _ rfl (wanted_of 7 76 false rfl (by kernel_rfl) hgu) rfl (Below.refl _ _) (by decide) hS RB (by show a'.tmps.getD 6 undef = _; rw [inv.old 6 (notDst_spec (by kernel_rfl))]; rfl)
            · obtain rfl := Option.some.inj hi
              have hgu : a'.tmps.getD 76 undef = _ := pre_of hpre 7 76 (by kernel_rfl) (by kernel_rfl)
              have h0 : a'.tmps.getD 79 undef = _ := pre_of hpre 10 79 (by kernel_rfl) (by kernel_rfl)
              refine sq_quiet 21 #[a'.tmps.getD 79 undef] rfl (wanted_of 7 76 false rfl (by kernel_rfl) hgu) (by kernel_rfl) (by decide) hS ?_
              rw [h0]
              exact (REnd_any w' q at2 _ l bd (HRF.out.only ho (by simp)) (HSR.out w' ho)).mono (by rintro e u ⟨rfl, k, rfl⟩; exact ⟨_, rfl, Only.drewN _ _ _, (fun _ _ => trivial), by rw [HE2.out]; rfl⟩)
            · obtain rfl := Option.some.inj hi
              have hgu : a'.tmps.getD 76 undef = _ := pre_of hpre 7 76 (by kernel_rfl) (by kernel_rfl)
              have h0 : a'.tmps.getD 78 undef = _ := pre_of hpre 9 78 (by kernel_rfl) (by kernel_rfl)
              have h1 : a'.tmps.getD 80 undef = _ := pre_of hpre 11 80 (by kernel_rfl) (by kernel_rfl)
              exact sq_value _ rfl (wanted_of 7 76 false rfl (by kernel_rfl) hgu) (neqB_run 78 80 _ _ rfl h0 h1) (Below.refl _ _) (by decide) hS RB (by show Value.bool _ = _; simp)
            · obtain rfl := Option.some.inj hi
              have h0 : a'.tmps.getD 76 undef = _ := pre_of hpre 7 76 (by kernel_rfl) (by kernel_rfl)
              have h1 : a'.tmps.getD 81 undef = _ := pre_of hpre 12 81 (by kernel_rfl) (by kernel_rfl)
              exact sq_value _ rfl rfl (pick_run 76 false _ _ _ _ rfl h0 rfl h1) (Below.refl _ _) (by decide) hS RB rfl
          · intro a' w5 f inv hS hall hd
            have hk13 := hd 13 82 (by kernel_rfl)
            have ho : Only [] w4 w5 := inv.grow
            have hdf : a'.defers = [] := inv.defers
            have hsz : a'.tmps.size = 84 := inv.size
            have e := frame4_11 hsz (fun t ht => inv.old t (dstsIn_spec (ts := [69, 70, 71, 72, 73, 74, 75, 76, 77, 78, 79, 80, 81, 82]) (by kernel_rfl) t ht))
            have hR := hS.done (fun c hc => hall c (show c < 14 by simp at hc <;> omega))
            clear inv hd hsz hall hS
            obtain ⟨tmps, defers⟩ := a'
            obtain rfl : defers = [] := hdf
            replace e : tmps = _ := e
            replace hk13 : tmps.getD 82 undef = (.bool false) := hk13
            generalize tmps.getD 69 undef = x69 at *
            generalize tmps.getD 70 undef = x70 at *
            generalize tmps.getD 71 undef = x71 at *
            generalize tmps.getD 72 undef = x72 at *
            generalize tmps.getD 73 undef = x73 at *
            generalize tmps.getD 74 undef = x74 at *
            generalize tmps.getD 75 undef = x75 at *
            generalize tmps.getD 76 undef = x76 at *
            generalize tmps.getD 77 undef = x77 at *
            generalize tmps.getD 78 undef = x78 at *
            generalize tmps.getD 79 undef = x79 at *
            generalize tmps.getD 80 undef = x80 at *
            generalize tmps.getD 81 undef = x81 at *
            generalize tmps.getD 82 undef = x82 at *
            simp only [Array.getD_eq_getD_getElem?, List.getElem?_toArray, List.getElem?_cons_succ, List.getElem?_cons_zero, Option.getD_some] at e
            subst e
            subst hk13
            have HLN : Hid (Loop4 w w5 p g q (.slice a n c) l) := ⟨HB4.out.trans (ho.below HB4.out.size (by simp)), o2, at2, left2, bd, HRD.out.only ho (by simp) (by simp), HRF.out.only ho (by simp), HBO.out⟩
            clear hR ho RB HRD HRF HB4 HSR HE1 HE2 HBO
            go_wp2_with fail
            go_roundw
            case rel =>
              first
                | exact ⟨j + 1, by omega, by go_num, HLN.out⟩
                | ((repeat apply Exists.intro)
                   refine ⟨⟨j + 1, by omega, ?_, HLN.out⟩, rfl⟩
                   go_num)
            case measure => simp [intOf]; omega
    · obtain rfl : j = n2 := by omega
      have j1 : ¬ (j : Int) < (j : Int) := by omega
      go_wp2_with fail
      go_ret
      exact ⟨rfl, HLo.out.1⟩
theorem reads_any (a : Option Addr) (n c : Nat) (a2 : Option Addr) (n2 c2 : Nat) (w : World) (h : RowIs w a n c) (h2 : n2 ≤ 9223372036854775807 ∧ ∃ ks : List Ak, ks.length = n2 ∧ AskRow w a2 ks) :
    Calls Try.prog 4 #[.slice a n c, .slice a2 n2 c2] w fun e w' => e = .returned (.bool true) ∧ Below w.heap.size w w' := by
  by_cases hn : 2000 < n ∨ 30 < n2
  · exact reads_many a n c a2 n2 c2 w h.max h2.1 hn
  · obtain ⟨l, hl, hs⟩ := Src.of h
    obtain ⟨_, ks, hk, hr⟩ := h2
    exact reads_main a c l n a2 c2 ks n2 w hl (by omega) hs hk (by omega) hr
end Go.Proofs.Ytcpojjhopbcjkaa.C8
