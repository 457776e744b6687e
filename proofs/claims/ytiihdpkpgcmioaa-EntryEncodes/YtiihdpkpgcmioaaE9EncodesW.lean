/- The walk of EntryEncodes. -/
import Derived.Test.YtiihdpkpgcmioaaE9EncV
namespace Go.Proofs.Ytiihdpkpgcmioaa.E9
open Go.RowKit C8
/-- The entry in its box, and the document's one in another. -/
structure St5 (w W : World) (b b3 : Nat) (C X : Array Value) : Prop where
  bel : Below w.heap.size w W
  box : W.heap[b]? = some (.cells C 25 (0, 0))
  box3 : W.heap[b3]? = some (.cells X 30 (0, 0))
theorem St5.step {w W W' : World} {b b3 : Nat} {C X : Array Value} (h : St5 w W b b3 C X) (hb : Below W.heap.size W W') : St5 w W' b b3 C X :=
  ⟨h.bel.trans (bel_le hb h.bel.size), (hb.block _ (Array.getElem?_eq_some_iff.1 h.box).1).trans h.box, (hb.block _ (Array.getElem?_eq_some_iff.1 h.box3).1).trans h.box3⟩
theorem St5.cells3 {w W : World} {b b3 : Nat} {C : Array Value} {x0 x1 x2 x3 x4 x5 x6 x7 x8 : Value} (h : St5 w W b b3 C #[x0, x1, x2, x3, x4, x5, x6, x7, x8]) : W.cell? ⟨b3, 0, none⟩ = some (x0) ∧ W.cell? ⟨b3, 1, none⟩ = some (x1) ∧ W.cell? ⟨b3, 2, none⟩ = some (x2) ∧ W.cell? ⟨b3, 3, none⟩ = some (x3) ∧ W.cell? ⟨b3, 4, none⟩ = some (x4) ∧ W.cell? ⟨b3, 5, none⟩ = some (x5) ∧ W.cell? ⟨b3, 6, none⟩ = some (x6) ∧ W.cell? ⟨b3, 7, none⟩ = some (x7) ∧ W.cell? ⟨b3, 8, none⟩ = some (x8) := by
  refine ⟨?_, ?_, ?_, ?_, ?_, ?_, ?_, ?_, ?_⟩ <;> (rw [cell_of_row _ _ _ _ _ _ h.box3]; rfl)
set_option maxHeartbeats 4000000 in
theorem enc_e1 (a : En) (va : Value) (w : World) (ha : EnIs w va a) (hs : small a = false) : Calls Try.prog 3 #[va] w fun e w' => e = .returned (.bool true) ∧ Below w.heap.size w w' := by
  have hA := ha
  obtain ⟨np, nc, vp, vc, q, c, rfl, -⟩ := ha
  have HEA : Hid (∀ W, Below w.heap.size w W → EnIs W (.agg (EnV a np nc vp vc q c)) a) := fun W h => hA.below h
  have HC9 : ∀ W, Hid (St9 w W w.heap.size (EnV a np nc vp vc q c)) → Calls Try.prog 9 #[] W fun e w' => e = .returned (.bool true) ∧ Hid (St9 w w' w.heap.size (EnV a np nc vp vc q c)) ∧ w'.cell? ⟨w.heap.size, 0, none⟩ = some (.int .i64 a.kind) ∧ w'.cell? ⟨w.heap.size, 1, none⟩ = some (.int .i64 a.writer) ∧ w'.cell? ⟨w.heap.size, 2, none⟩ = some (.int .i64 a.seq) ∧ w'.cell? ⟨w.heap.size, 3, none⟩ = some (.slice np a.name.length nc) ∧ w'.cell? ⟨w.heap.size, 4, none⟩ = some (.slice vp a.value.length vc) ∧ w'.cell? ⟨w.heap.size, 5, none⟩ = some (.int .i64 a.who) ∧ w'.cell? ⟨w.heap.size, 6, none⟩ = some (.int .i64 a.rights) ∧ w'.cell? ⟨w.heap.size, 7, none⟩ = some (.int .i64 a.epoch) ∧ w'.cell? ⟨w.heap.size, 8, none⟩ = some (.slice q a.wraps.length c) := fun W h => (anchor_any W).mono (by rintro e w' ⟨rfl, hb⟩; exact ⟨rfl, h.out.step hb, (h.out.step hb).cells⟩)
  have HC10 : ∀ W, Hid (St9 w W w.heap.size (EnV a np nc vp vc q c)) → Calls Try.prog 10 #[.agg (EnV a np nc vp vc q c)] W fun e w' => e = .returned (.bool (small a)) ∧ Hid (St9 w w' w.heap.size (EnV a np nc vp vc q c)) ∧ w'.cell? ⟨w.heap.size, 0, none⟩ = some (.int .i64 a.kind) ∧ w'.cell? ⟨w.heap.size, 1, none⟩ = some (.int .i64 a.writer) ∧ w'.cell? ⟨w.heap.size, 2, none⟩ = some (.int .i64 a.seq) ∧ w'.cell? ⟨w.heap.size, 3, none⟩ = some (.slice np a.name.length nc) ∧ w'.cell? ⟨w.heap.size, 4, none⟩ = some (.slice vp a.value.length vc) ∧ w'.cell? ⟨w.heap.size, 5, none⟩ = some (.int .i64 a.who) ∧ w'.cell? ⟨w.heap.size, 6, none⟩ = some (.int .i64 a.rights) ∧ w'.cell? ⟨w.heap.size, 7, none⟩ = some (.int .i64 a.epoch) ∧ w'.cell? ⟨w.heap.size, 8, none⟩ = some (.slice q a.wraps.length c) := fun W h => (small_any a _ W (HEA.out W h.out.bel)).mono (by rintro e w' ⟨rfl, hb⟩; exact ⟨rfl, h.out.step hb, (h.out.step hb).cells⟩)
  have HS0 : Hid (St9 w (w.alloc (.cells (EnV a np nc vp vc q c) 25)) w.heap.size (EnV a np nc vp vc q c)) := St9.start w _
  clear hA HEA
  rw [hs] at HC10
  clear hs
  obtain ⟨a1, a2, a3, a4, a5, a6, a7, a8, a9⟩ := a
  simp only [EnV] at HC9 HC10 HS0 ⊢
  generalize a4.length = l4 at *
  generalize a5.length = l5 at *
  generalize a9.length = l9 at *
  go_enter Try.func3, Try.ntmps3
  go_wp2_with (first | (go_at_call 9; refine (HC9 _ HS0).mono ?_; rintro e w1 ⟨rfl, S1, d0, d1, d2, d3, d4, d5, d6, d7, d8⟩) | (go_at_call 10; with_reducible refine (HC10 _ S1).mono ?_; rintro e w2 ⟨rfl, S2, f0, f1, f2, f3, f4, f5, f6, f7, f8⟩))
  go_ret
  exact ⟨rfl, S2.out.bel⟩
set_option maxHeartbeats 8000000 in
theorem enc_f (a : En) (va : Value) (w : World) (ha : EnIs w va a) (hs : small a = true) (hr : right a = false) : Calls Try.prog 3 #[va] w fun e w' => e = .returned (.bool true) ∧ Below w.heap.size w w' := by
  have hA := ha
  obtain ⟨np, nc, vp, vc, q, c, rfl, -⟩ := ha
  have HEA : Hid (∀ W, Below w.heap.size w W → EnIs W (.agg (EnV a np nc vp vc q c)) a) := fun W h => hA.below h
  have HC9 : ∀ W, Hid (St9 w W w.heap.size (EnV a np nc vp vc q c)) → Calls Try.prog 9 #[] W fun e w' => e = .returned (.bool true) ∧ Hid (St9 w w' w.heap.size (EnV a np nc vp vc q c)) ∧ w'.cell? ⟨w.heap.size, 0, none⟩ = some (.int .i64 a.kind) ∧ w'.cell? ⟨w.heap.size, 1, none⟩ = some (.int .i64 a.writer) ∧ w'.cell? ⟨w.heap.size, 2, none⟩ = some (.int .i64 a.seq) ∧ w'.cell? ⟨w.heap.size, 3, none⟩ = some (.slice np a.name.length nc) ∧ w'.cell? ⟨w.heap.size, 4, none⟩ = some (.slice vp a.value.length vc) ∧ w'.cell? ⟨w.heap.size, 5, none⟩ = some (.int .i64 a.who) ∧ w'.cell? ⟨w.heap.size, 6, none⟩ = some (.int .i64 a.rights) ∧ w'.cell? ⟨w.heap.size, 7, none⟩ = some (.int .i64 a.epoch) ∧ w'.cell? ⟨w.heap.size, 8, none⟩ = some (.slice q a.wraps.length c) := fun W h => (anchor_any W).mono (by rintro e w' ⟨rfl, hb⟩; exact ⟨rfl, h.out.step hb, (h.out.step hb).cells⟩)
  have HC10 : ∀ W, Hid (St9 w W w.heap.size (EnV a np nc vp vc q c)) → Calls Try.prog 10 #[.agg (EnV a np nc vp vc q c)] W fun e w' => e = .returned (.bool (small a)) ∧ Hid (St9 w w' w.heap.size (EnV a np nc vp vc q c)) ∧ w'.cell? ⟨w.heap.size, 0, none⟩ = some (.int .i64 a.kind) ∧ w'.cell? ⟨w.heap.size, 1, none⟩ = some (.int .i64 a.writer) ∧ w'.cell? ⟨w.heap.size, 2, none⟩ = some (.int .i64 a.seq) ∧ w'.cell? ⟨w.heap.size, 3, none⟩ = some (.slice np a.name.length nc) ∧ w'.cell? ⟨w.heap.size, 4, none⟩ = some (.slice vp a.value.length vc) ∧ w'.cell? ⟨w.heap.size, 5, none⟩ = some (.int .i64 a.who) ∧ w'.cell? ⟨w.heap.size, 6, none⟩ = some (.int .i64 a.rights) ∧ w'.cell? ⟨w.heap.size, 7, none⟩ = some (.int .i64 a.epoch) ∧ w'.cell? ⟨w.heap.size, 8, none⟩ = some (.slice q a.wraps.length c) := fun W h => (small_any a _ W (HEA.out W h.out.bel)).mono (by rintro e w' ⟨rfl, hb⟩; exact ⟨rfl, h.out.step hb, (h.out.step hb).cells⟩)
  have HS0 : Hid (St9 w (w.alloc (.cells (EnV a np nc vp vc q c) 25)) w.heap.size (EnV a np nc vp vc q c)) := St9.start w _
  rw [hs] at HC10
  obtain ⟨A, HAA⟩ : ∃ A : En, Hid (a = A) := ⟨_, rfl⟩
  have HR : Hid (right A = false) := by have := hr; rw [HAA.out] at this; exact this
  have HC11 : ∀ W, Hid (St9 w W w.heap.size (EnV a np nc vp vc q c)) → Calls Try.prog 11 #[.agg (EnV a np nc vp vc q c)] W fun e w' => ∃ xp xc yp yc zq zc, e = .returned (.agg (EnV a xp xc yp yc zq zc)) ∧ Hid (St5 w (w'.alloc (.cells (EnV a xp xc yp yc zq zc) 30)) w.heap.size w'.heap.size (EnV a np nc vp vc q c) (EnV a xp xc yp yc zq zc)) ∧ Hid (∀ W, Below (w'.alloc (.cells (EnV a xp xc yp yc zq zc) 30)).heap.size (w'.alloc (.cells (EnV a xp xc yp yc zq zc) 30)) W → EnIs W (.agg (EnV a xp xc yp yc zq zc)) A) ∧ (w'.alloc (.cells (EnV a xp xc yp yc zq zc) 30)).cell? ⟨w.heap.size, 0, none⟩ = some (.int .i64 a.kind) ∧ (w'.alloc (.cells (EnV a xp xc yp yc zq zc) 30)).cell? ⟨w.heap.size, 1, none⟩ = some (.int .i64 a.writer) ∧ (w'.alloc (.cells (EnV a xp xc yp yc zq zc) 30)).cell? ⟨w.heap.size, 2, none⟩ = some (.int .i64 a.seq) ∧ (w'.alloc (.cells (EnV a xp xc yp yc zq zc) 30)).cell? ⟨w.heap.size, 3, none⟩ = some (.slice np a.name.length nc) ∧ (w'.alloc (.cells (EnV a xp xc yp yc zq zc) 30)).cell? ⟨w.heap.size, 4, none⟩ = some (.slice vp a.value.length vc) ∧ (w'.alloc (.cells (EnV a xp xc yp yc zq zc) 30)).cell? ⟨w.heap.size, 5, none⟩ = some (.int .i64 a.who) ∧ (w'.alloc (.cells (EnV a xp xc yp yc zq zc) 30)).cell? ⟨w.heap.size, 6, none⟩ = some (.int .i64 a.rights) ∧ (w'.alloc (.cells (EnV a xp xc yp yc zq zc) 30)).cell? ⟨w.heap.size, 7, none⟩ = some (.int .i64 a.epoch) ∧ (w'.alloc (.cells (EnV a xp xc yp yc zq zc) 30)).cell? ⟨w.heap.size, 8, none⟩ = some (.slice q a.wraps.length c) := fun W h => (made_any a _ W (HEA.out W h.out.bel) (by have := (small_of hs).2.2.2; omega)).mono (by
    rintro e w' ⟨v, rfl, hv, hb⟩
    have hv' := hv
    obtain ⟨xp, xc, yp, yc, zq, zc, rfl, -⟩ := hv
    have hal : Below w'.heap.size w' (w'.alloc (.cells (EnV a xp xc yp yc zq zc) 30)) := bel_alloc (Nat.le_refl _) _
    have h2 := (h.out.step hb).step hal
    refine ⟨xp, xc, yp, yc, zq, zc, rfl, ⟨h2.bel, h2.box, heap_alloc_new w' _⟩, fun W hW => HAA.out ▸ (hv'.below hal).below hW, h2.cells⟩)
  have HC12 : ∀ W b3 xp xc yp yc zq zc, Hid (St5 w W w.heap.size b3 (EnV a np nc vp vc q c) (EnV a xp xc yp yc zq zc)) → Calls Try.prog 12 #[.agg (EnV a np nc vp vc q c)] W fun e w' => e = .returned (.tuple #[.slice none 0 0, .int .i64 10]) ∧ Hid (Below W.heap.size W w') ∧ Hid (St5 w w' w.heap.size b3 (EnV a np nc vp vc q c) (EnV a xp xc yp yc zq zc)) := fun W b3 xp xc yp yc zq zc h => (Encode_any a _ W (HEA.out W h.out.bel)).mono (by
    rintro e w' ⟨hb, h2⟩
    rcases h2 with ⟨h2, _⟩ | ⟨_, rfl⟩
    · rw [HAA.out, HR.out] at h2; cases h2
    · exact ⟨rfl, hb, h.out.step hb⟩)
  have HRG : Hid (∀ W, Below w.heap.size w W → Calls Try.prog 13 #[.agg (EnV a np nc vp vc q c)] W fun e u => e = .returned (.bool false) ∧ Below W.heap.size W u) := fun W h => by
    have := Right_any a _ W (HEA.out W h)
    rw [hr] at this
    exact this
  clear hA hs hr HEA HAA
  obtain ⟨a1, a2, a3, a4, a5, a6, a7, a8, a9⟩ := a
  simp only [EnV] at HC9 HC10 HC11 HC12 HS0 HRG ⊢
  generalize a4.length = l4 at *
  generalize a5.length = l5 at *
  generalize a9.length = l9 at *
  go_enter Try.func3, Try.ntmps3
  go_wp2_with (first | (go_at_call 9; refine (HC9 _ HS0).mono ?_; rintro e w1 ⟨rfl, S1, d0, d1, d2, d3, d4, d5, d6, d7, d8⟩) | (go_at_call 10; with_reducible refine (HC10 _ S1).mono ?_; rintro e w2 ⟨rfl, S2, f0, f1, f2, f3, f4, f5, f6, f7, f8⟩) | (go_at_call 11; with_reducible refine (HC11 _ S2).mono ?_; rintro e w3 ⟨xp, xc, yp, yc, zq, zc, rfl, S3, F3, h0, h1, h2, h3, h4, h5, h6, h7, h8⟩))
  refine (HC12 _ _ _ _ _ _ _ _ S3).mono ?_
  rintro e w4 ⟨rfl, B4, S4⟩
  clear HC9 HC10 HC11 HC12 S1 S2 S3 HS0 d0 d1 d2 d3 d4 d5 d6 d7 d8 f0 f1 f2 f3 f4 f5 f6 f7 f8 h0 h1 h2 h3 h4 h5 h6 h7 h8
  have F4 : Hid (∀ W, Below w4.heap.size w4 W → EnIs W (.agg #[.int .i64 a1, .int .i64 a2, .int .i64 a3, .slice xp l4 xc, .slice yp l5 yc, .int .i64 a6, .int .i64 a7, .int .i64 a8, .slice zq l9 zc]) A) := fun W h => F3.out W (B4.out.trans (bel_le h B4.out.size))
  clear F3
  go_wp2_with fail
  obtain ⟨p1, HP1⟩ : ∃ p1, Hid (w.heap.size = p1) := ⟨_, rfl⟩
  obtain ⟨p3, HP3⟩ : ∃ p3, Hid (w3.heap.size = p3) := ⟨_, rfl⟩
  obtain ⟨CA, HCA⟩ : ∃ CA : Array Value, Hid (#[.int .i64 a1, .int .i64 a2, .int .i64 a3, .slice np l4 nc, .slice vp l5 vc, .int .i64 a6, .int .i64 a7, .int .i64 a8, .slice q l9 c] = CA) := ⟨_, rfl⟩
  obtain ⟨CB, HCB⟩ : ∃ CB : Array Value, Hid (#[.int .i64 a1, .int .i64 a2, .int .i64 a3, .slice xp l4 xc, .slice yp l5 yc, .int .i64 a6, .int .i64 a7, .int .i64 a8, .slice zq l9 zc] = CB) := ⟨_, rfl⟩
  have HST : Hid (∀ w', Only [] w4 w' → St5 w w' w.heap.size w3.heap.size #[.int .i64 a1, .int .i64 a2, .int .i64 a3, .slice np l4 nc, .slice vp l5 vc, .int .i64 a6, .int .i64 a7, .int .i64 a8, .slice q l9 c] #[.int .i64 a1, .int .i64 a2, .int .i64 a3, .slice xp l4 xc, .slice yp l5 yc, .int .i64 a6, .int .i64 a7, .int .i64 a8, .slice zq l9 zc]) := fun w' ho => S4.out.step (ho.below (Nat.le_refl _) (by simp))
  have HR1 : Hid (∀ w', Only [] w4 w' → w'.heap[p1]? = some (.cells CA 25 (0, 0)) ∧ CA.size = 9) := by rw [← HP1.out, ← HCA.out]; exact fun w' ho => ⟨(HST.out w' ho).box, rfl⟩
  have HR3 : Hid (∀ w', Only [] w4 w' → w'.heap[p3]? = some (.cells CB 30 (0, 0)) ∧ CB.size = 9) := by rw [← HP3.out, ← HCB.out]; exact fun w' ho => ⟨(HST.out w' ho).box3, rfl⟩
  have HRP : Hid (∀ w', Only [] w4 w' → Calls Try.prog 13 #[.agg CA] w' fun e u => e = .returned (.bool false) ∧ Below w'.heap.size w' u) := by
    rw [← HCA.out]
    exact fun w' ho => HRG.out w' (HST.out w' ho).bel
  have HRD : Hid (∀ w', Only [] w4 w' → Calls Try.prog 14 #[.agg CB] w' fun e u => e = .returned (.bool false) ∧ Below w'.heap.size w' u) := by
    rw [← HCB.out]
    intro w' ho
    have := rRight_any A _ w' (F4.out w' (ho.below (Nat.le_refl _) (by simp)))
    rw [HR.out] at this
    exact this
  rw [HP3.out, HP1.out]
  have RB : ∀ k w w', Below w.heap.size w w' → (fun (_ : Nat) (_ : World) => True) k w → (fun (_ : Nat) (_ : World) => True) k w' := fun _ _ _ _ _ => trivial
  refine wp_region_st (en7 CA CB false) (fun u u' => Only [] u u') (SeqS [] (fun (_ : Nat) (_ : World) => True)) (by kernel_rfl) (only_drew _ _) (only_trans _) (en7_kept CA CB false) (by kernel_rfl) (SeqS.start (trivial)) ?_ ?_
  · intro i o a' w' f hi inv hS hfi hfw hpre
    have ho : Only [] w4 w' := inv.grow
    have hlt : i < 5 := (Array.getElem?_eq_some_iff.1 hi).1
    obtain rfl|rfl|rfl|rfl|rfl : i = 0 ∨ i = 1 ∨ i = 2 ∨ i = 3 ∨ i = 4 := by omega
    · obtain rfl := Option.some.inj hi
      have h0 : a'.tmps.getD 1 undef = (.pointer (some ⟨p1, 0, none⟩)) := by rw [inv.old 1 (notDst_spec (by kernel_rfl))]; rfl
      exact sq_value _ rfl rfl (load_run 25 1 p1 (0) _ rfl h0 (ld25 (HR1.out w' ho))) (Below.refl _ _) (by decide) hS RB rfl
    · obtain rfl := Option.some.inj hi
      have h0 : a'.tmps.getD 20 undef = _ := pre_of hpre 0 20 (by kernel_rfl) (by kernel_rfl)
      refine sq_quiet 13 #[a'.tmps.getD 20 undef] rfl rfl (by kernel_rfl) (by decide) hS ?_
      rw [h0]
      exact (HRP.out w' ho).mono (by rintro e u ⟨rfl, h2⟩; exact ⟨_, rfl, Only.of_below h2 _, (fun _ h => h), rfl⟩)
    · obtain rfl := Option.some.inj hi
      have h0 : a'.tmps.getD 3 undef = (.pointer (some ⟨p3, 0, none⟩)) := by rw [inv.old 3 (notDst_spec (by kernel_rfl))]; rfl
      exact sq_value _ rfl rfl (load_run 30 3 p3 (0) _ rfl h0 (ld30 (HR3.out w' ho))) (Below.refl _ _) (by decide) hS RB rfl
    · obtain rfl := Option.some.inj hi
      have h0 : a'.tmps.getD 22 undef = _ := pre_of hpre 2 22 (by kernel_rfl) (by kernel_rfl)
      refine sq_quiet 14 #[a'.tmps.getD 22 undef] rfl rfl (by kernel_rfl) (by decide) hS ?_
      rw [h0]
      exact (HRD.out w' ho).mono (by rintro e u ⟨rfl, h2⟩; exact ⟨_, rfl, Only.of_below h2 _, (fun _ h => h), rfl⟩)
    · obtain rfl := Option.some.inj hi
      have h0 : a'.tmps.getD 21 undef = _ := pre_of hpre 1 21 (by kernel_rfl) (by kernel_rfl)
      have h1 : a'.tmps.getD 23 undef = _ := pre_of hpre 3 23 (by kernel_rfl) (by kernel_rfl)
      exact sq_value _ rfl rfl (neqB_run 21 23 _ _ rfl h0 h1) (Below.refl _ _) (by decide) hS RB (by show Value.bool _ = _; simp)
  · intro a' w5 f inv hS hall hd
    have hk4 := hd 4 24 (by kernel_rfl)
    have ho : Only [] w4 w5 := inv.grow
    have hdf : a'.defers = [] := inv.defers
    have hsz : a'.tmps.size = 60 := inv.size
    have e := frame3_7 hsz (fun t ht => inv.old t (dstsIn_spec (ts := [20, 21, 22, 23, 24]) (by kernel_rfl) t ht))
    have hR := hS.done (fun c hc => hall c (show c < 5 by simp at hc <;> omega))
    clear inv hd hsz hall hS
    obtain ⟨tmps, defers⟩ := a'
    obtain rfl : defers = [] := hdf
    replace e : tmps = _ := e
    replace hk4 : tmps.getD 24 undef = (.bool false) := hk4
    generalize tmps.getD 20 undef = x20 at *
    generalize tmps.getD 21 undef = x21 at *
    generalize tmps.getD 22 undef = x22 at *
    generalize tmps.getD 23 undef = x23 at *
    generalize tmps.getD 24 undef = x24 at *
    simp only [Array.getD_eq_getD_getElem?, List.getElem?_toArray, List.getElem?_cons_succ, List.getElem?_cons_zero, Option.getD_some] at e
    subst e
    subst hk4
    have e1 : w.heap.size = p1 := HP1.out
    have e3 : w3.heap.size = p3 := HP3.out
    subst e1 e3
    have B5 : Below w4.heap.size w4 w5 := ho.below (Nat.le_refl _) (by simp)
    have S5H : Hid (St5 w w5 w.heap.size w3.heap.size #[.int .i64 a1, .int .i64 a2, .int .i64 a3, .slice np l4 nc, .slice vp l5 vc, .int .i64 a6, .int .i64 a7, .int .i64 a8, .slice q l9 c] #[.int .i64 a1, .int .i64 a2, .int .i64 a3, .slice xp l4 xc, .slice yp l5 yc, .int .i64 a6, .int .i64 a7, .int .i64 a8, .slice zq l9 zc]) := HST.out w5 ho
    have F5 : Hid (∀ W, Below w5.heap.size w5 W → EnIs W (.agg #[.int .i64 a1, .int .i64 a2, .int .i64 a3, .slice xp l4 xc, .slice yp l5 yc, .int .i64 a6, .int .i64 a7, .int .i64 a8, .slice zq l9 zc]) A) := fun W h => F4.out W (B5.trans (bel_le h B5.size))
    have HC14 : Calls Try.prog 14 #[.agg #[.int .i64 a1, .int .i64 a2, .int .i64 a3, .slice xp l4 xc, .slice yp l5 yc, .int .i64 a6, .int .i64 a7, .int .i64 a8, .slice zq l9 zc]] w5 fun e u => e = .returned (.bool false) ∧ Hid (Below w5.heap.size w5 u) := by
      have := rRight_any A _ w5 (F5.out w5 (Below.refl _ _))
      rw [HR.out] at this
      exact this
    obtain ⟨u0, u1, u2, u3, u4, u5, u6, u7, u8⟩ := S5H.out.cells3
    clear ho hR HST HR1 HR3 HRP HRD HCA HCB B4 S4 F4 B5
    go_wp2_with (first | (go_at_call 14; with_reducible refine HC14.mono ?_; rintro e w6 ⟨rfl, B6⟩))
    go_ret
    exact ⟨rfl, (S5H.out.step B6.out).bel⟩
set_option maxHeartbeats 8000000 in
theorem enc_t (a : En) (va : Value) (w : World) (ha : EnIs w va a) (hs : small a = true) (hr : right a = true) : Calls Try.prog 3 #[va] w fun e w' => e = .returned (.bool true) ∧ Below w.heap.size w w' := by
  have hA := ha
  obtain ⟨np, nc, vp, vc, q, c, rfl, -⟩ := ha
  have HEA : Hid (∀ W, Below w.heap.size w W → EnIs W (.agg (EnV a np nc vp vc q c)) a) := fun W h => hA.below h
  have HC9 : ∀ W, Hid (St9 w W w.heap.size (EnV a np nc vp vc q c)) → Calls Try.prog 9 #[] W fun e w' => e = .returned (.bool true) ∧ Hid (St9 w w' w.heap.size (EnV a np nc vp vc q c)) ∧ w'.cell? ⟨w.heap.size, 0, none⟩ = some (.int .i64 a.kind) ∧ w'.cell? ⟨w.heap.size, 1, none⟩ = some (.int .i64 a.writer) ∧ w'.cell? ⟨w.heap.size, 2, none⟩ = some (.int .i64 a.seq) ∧ w'.cell? ⟨w.heap.size, 3, none⟩ = some (.slice np a.name.length nc) ∧ w'.cell? ⟨w.heap.size, 4, none⟩ = some (.slice vp a.value.length vc) ∧ w'.cell? ⟨w.heap.size, 5, none⟩ = some (.int .i64 a.who) ∧ w'.cell? ⟨w.heap.size, 6, none⟩ = some (.int .i64 a.rights) ∧ w'.cell? ⟨w.heap.size, 7, none⟩ = some (.int .i64 a.epoch) ∧ w'.cell? ⟨w.heap.size, 8, none⟩ = some (.slice q a.wraps.length c) := fun W h => (anchor_any W).mono (by rintro e w' ⟨rfl, hb⟩; exact ⟨rfl, h.out.step hb, (h.out.step hb).cells⟩)
  have HC10 : ∀ W, Hid (St9 w W w.heap.size (EnV a np nc vp vc q c)) → Calls Try.prog 10 #[.agg (EnV a np nc vp vc q c)] W fun e w' => e = .returned (.bool (small a)) ∧ Hid (St9 w w' w.heap.size (EnV a np nc vp vc q c)) ∧ w'.cell? ⟨w.heap.size, 0, none⟩ = some (.int .i64 a.kind) ∧ w'.cell? ⟨w.heap.size, 1, none⟩ = some (.int .i64 a.writer) ∧ w'.cell? ⟨w.heap.size, 2, none⟩ = some (.int .i64 a.seq) ∧ w'.cell? ⟨w.heap.size, 3, none⟩ = some (.slice np a.name.length nc) ∧ w'.cell? ⟨w.heap.size, 4, none⟩ = some (.slice vp a.value.length vc) ∧ w'.cell? ⟨w.heap.size, 5, none⟩ = some (.int .i64 a.who) ∧ w'.cell? ⟨w.heap.size, 6, none⟩ = some (.int .i64 a.rights) ∧ w'.cell? ⟨w.heap.size, 7, none⟩ = some (.int .i64 a.epoch) ∧ w'.cell? ⟨w.heap.size, 8, none⟩ = some (.slice q a.wraps.length c) := fun W h => (small_any a _ W (HEA.out W h.out.bel)).mono (by rintro e w' ⟨rfl, hb⟩; exact ⟨rfl, h.out.step hb, (h.out.step hb).cells⟩)
  have HS0 : Hid (St9 w (w.alloc (.cells (EnV a np nc vp vc q c) 25)) w.heap.size (EnV a np nc vp vc q c)) := St9.start w _
  rw [hs] at HC10
  obtain ⟨A, HAA⟩ : ∃ A : En, Hid (a = A) := ⟨_, rfl⟩
  have HR : Hid (right A = true) := by have := hr; rw [HAA.out] at this; exact this
  obtain ⟨bs, HBS⟩ : ∃ bs, Hid (bytes A = bs) := ⟨_, rfl⟩
  obtain ⟨n, HN⟩ : ∃ n, Hid (bs.length = n) := ⟨_, rfl⟩
  have HC11 : ∀ W, Hid (St9 w W w.heap.size (EnV a np nc vp vc q c)) → Calls Try.prog 11 #[.agg (EnV a np nc vp vc q c)] W fun e w' => ∃ xp xc yp yc zq zc, e = .returned (.agg (EnV a xp xc yp yc zq zc)) ∧ Hid (St5 w (w'.alloc (.cells (EnV a xp xc yp yc zq zc) 30)) w.heap.size w'.heap.size (EnV a np nc vp vc q c) (EnV a xp xc yp yc zq zc)) ∧ Hid (∀ W, Below (w'.alloc (.cells (EnV a xp xc yp yc zq zc) 30)).heap.size (w'.alloc (.cells (EnV a xp xc yp yc zq zc) 30)) W → EnIs W (.agg (EnV a xp xc yp yc zq zc)) A) ∧ (w'.alloc (.cells (EnV a xp xc yp yc zq zc) 30)).cell? ⟨w.heap.size, 0, none⟩ = some (.int .i64 a.kind) ∧ (w'.alloc (.cells (EnV a xp xc yp yc zq zc) 30)).cell? ⟨w.heap.size, 1, none⟩ = some (.int .i64 a.writer) ∧ (w'.alloc (.cells (EnV a xp xc yp yc zq zc) 30)).cell? ⟨w.heap.size, 2, none⟩ = some (.int .i64 a.seq) ∧ (w'.alloc (.cells (EnV a xp xc yp yc zq zc) 30)).cell? ⟨w.heap.size, 3, none⟩ = some (.slice np a.name.length nc) ∧ (w'.alloc (.cells (EnV a xp xc yp yc zq zc) 30)).cell? ⟨w.heap.size, 4, none⟩ = some (.slice vp a.value.length vc) ∧ (w'.alloc (.cells (EnV a xp xc yp yc zq zc) 30)).cell? ⟨w.heap.size, 5, none⟩ = some (.int .i64 a.who) ∧ (w'.alloc (.cells (EnV a xp xc yp yc zq zc) 30)).cell? ⟨w.heap.size, 6, none⟩ = some (.int .i64 a.rights) ∧ (w'.alloc (.cells (EnV a xp xc yp yc zq zc) 30)).cell? ⟨w.heap.size, 7, none⟩ = some (.int .i64 a.epoch) ∧ (w'.alloc (.cells (EnV a xp xc yp yc zq zc) 30)).cell? ⟨w.heap.size, 8, none⟩ = some (.slice q a.wraps.length c) := fun W h => (made_any a _ W (HEA.out W h.out.bel) (by have := (small_of hs).2.2.2; omega)).mono (by
    rintro e w' ⟨v, rfl, hv, hb⟩
    have hv' := hv
    obtain ⟨xp, xc, yp, yc, zq, zc, rfl, -⟩ := hv
    have hal : Below w'.heap.size w' (w'.alloc (.cells (EnV a xp xc yp yc zq zc) 30)) := bel_alloc (Nat.le_refl _) _
    have h2 := (h.out.step hb).step hal
    refine ⟨xp, xc, yp, yc, zq, zc, rfl, ⟨h2.bel, h2.box, heap_alloc_new w' _⟩, fun W hW => HAA.out ▸ (hv'.below hal).below hW, h2.cells⟩)
  have HC12 : ∀ W b3 xp xc yp yc zq zc, Hid (St5 w W w.heap.size b3 (EnV a np nc vp vc q c) (EnV a xp xc yp yc zq zc)) → Calls Try.prog 12 #[.agg (EnV a np nc vp vc q c)] W fun e w' => ∃ q1 c1, e = .returned (.tuple #[.slice q1 n c1, .int .i64 0]) ∧ Hid (Src w' (.slice q1 n c1) bs) ∧ Hid (Below W.heap.size W w') ∧ Hid (St5 w w' w.heap.size b3 (EnV a np nc vp vc q c) (EnV a xp xc yp yc zq zc)) := fun W b3 xp xc yp yc zq zc h => (Encode_any a _ W (HEA.out W h.out.bel)).mono (by
    rintro e w' ⟨hb, h2⟩
    rcases h2 with ⟨_, v, rfl, ho⟩ | ⟨h2, _⟩
    · obtain ⟨q1, c1, rfl⟩ := own_slice ho
      have ho' := Src.own (bytes_small hA.small) ho
      rw [HAA.out, HBS.out, HN.out] at ho'
      refine ⟨q1, c1, by rw [HAA.out, HBS.out, HN.out], ho', hb, h.out.step hb⟩
    · rw [HAA.out, HR.out] at h2; cases h2)
  have HC15 : ∀ W b3 xp xc yp yc zq zc q1 c1, Hid (St5 w W w.heap.size b3 (EnV a np nc vp vc q c) (EnV a xp xc yp yc zq zc)) → Hid (Src W (.slice q1 n c1) bs) → Calls Try.prog 15 #[.slice q1 n c1] W fun e w' => ∃ xp1 xc1 yp1 yc1 zq1 zc1, e = .returned (.tuple #[.agg (EnV a xp1 xc1 yp1 yc1 zq1 zc1), .int .i64 0]) ∧ Hid (Below W.heap.size W (w'.alloc (.cells (EnV a xp1 xc1 yp1 yc1 zq1 zc1) 25)) ∧ (w'.alloc (.cells (EnV a xp1 xc1 yp1 yc1 zq1 zc1) 25)).heap[w'.heap.size]? = some (.cells (EnV a xp1 xc1 yp1 yc1 zq1 zc1) 25 (0, 0)) ∧ EnIs (w'.alloc (.cells (EnV a xp1 xc1 yp1 yc1 zq1 zc1) 25)) (.agg (EnV a xp1 xc1 yp1 yc1 zq1 zc1)) A) := fun W b3 xp xc yp yc zq zc q1 c1 h hq => by
    refine (Decode_any _ _ W hq.out (by have := (bytes_length HR.out).1; rw [HBS.out] at this; omega)).mono ?_
    rintro e w' ⟨hb, ⟨E, v, hd, rfl, hn⟩ | ⟨hd, _⟩⟩
    · rw [← HBS.out, dec_own false HR.out] at hd
      obtain rfl := Option.some.inj hd
      have hn' := hn.is
      rw [← HAA.out] at hn'
      obtain ⟨xp1, xc1, yp1, yc1, zq1, zc1, rfl, -⟩ := hn'
      have hal : Below w'.heap.size w' (w'.alloc (.cells (EnV a xp1 xc1 yp1 yc1 zq1 zc1) 25)) := bel_alloc (Nat.le_refl _) _
      exact ⟨xp1, xc1, yp1, yc1, zq1, zc1, rfl, hb.trans (bel_le hal hb.size), heap_alloc_new w' _, hn.is.below hal⟩
    · rw [← HBS.out, dec_own false HR.out] at hd; cases hd
  have HRG : Hid (∀ W, Below w.heap.size w W → Calls Try.prog 13 #[.agg (EnV a np nc vp vc q c)] W fun e u => e = .returned (.bool true) ∧ Below W.heap.size W u) := fun W h => by
    have := Right_any a _ W (HEA.out W h)
    rw [hr] at this
    exact this
  have HWL : Hid (A.wraps.length ≤ 100000) := by have := (small_of hs).2.2.2; rw [HAA.out] at this; exact (by omega : A.wraps.length ≤ 100000)
  clear hA hs hr HEA HAA
  obtain ⟨a1, a2, a3, a4, a5, a6, a7, a8, a9⟩ := a
  simp only [EnV] at HC9 HC10 HC11 HC12 HC15 HS0 HRG ⊢
  generalize a4.length = l4 at *
  generalize a5.length = l5 at *
  generalize a9.length = l9 at *
  go_enter Try.func3, Try.ntmps3
  go_wp2_with (first | (go_at_call 9; refine (HC9 _ HS0).mono ?_; rintro e w1 ⟨rfl, S1, d0, d1, d2, d3, d4, d5, d6, d7, d8⟩) | (go_at_call 10; with_reducible refine (HC10 _ S1).mono ?_; rintro e w2 ⟨rfl, S2, f0, f1, f2, f3, f4, f5, f6, f7, f8⟩) | (go_at_call 11; with_reducible refine (HC11 _ S2).mono ?_; rintro e w3 ⟨xp, xc, yp, yc, zq, zc, rfl, S3, F3, h0, h1, h2, h3, h4, h5, h6, h7, h8⟩))
  refine (HC12 _ _ _ _ _ _ _ _ S3).mono ?_
  rintro e w4 ⟨q1, c1, rfl, E4, B4, S4⟩
  clear HC9 HC10 HC11 HC12 S1 S2 S3 HS0 d0 d1 d2 d3 d4 d5 d6 d7 d8 f0 f1 f2 f3 f4 f5 f6 f7 f8 h0 h1 h2 h3 h4 h5 h6 h7 h8
  have F4 : Hid (∀ W, Below w4.heap.size w4 W → EnIs W (.agg #[.int .i64 a1, .int .i64 a2, .int .i64 a3, .slice xp l4 xc, .slice yp l5 yc, .int .i64 a6, .int .i64 a7, .int .i64 a8, .slice zq l9 zc]) A) := fun W h => F3.out W (B4.out.trans (bel_le h B4.out.size))
  clear F3
  go_wp2_with fail
  obtain ⟨p1, HP1⟩ : ∃ p1, Hid (w.heap.size = p1) := ⟨_, rfl⟩
  obtain ⟨p3, HP3⟩ : ∃ p3, Hid (w3.heap.size = p3) := ⟨_, rfl⟩
  obtain ⟨CA, HCA⟩ : ∃ CA : Array Value, Hid (#[.int .i64 a1, .int .i64 a2, .int .i64 a3, .slice np l4 nc, .slice vp l5 vc, .int .i64 a6, .int .i64 a7, .int .i64 a8, .slice q l9 c] = CA) := ⟨_, rfl⟩
  obtain ⟨CB, HCB⟩ : ∃ CB : Array Value, Hid (#[.int .i64 a1, .int .i64 a2, .int .i64 a3, .slice xp l4 xc, .slice yp l5 yc, .int .i64 a6, .int .i64 a7, .int .i64 a8, .slice zq l9 zc] = CB) := ⟨_, rfl⟩
  have HST : Hid (∀ w', Only [] w4 w' → St5 w w' w.heap.size w3.heap.size #[.int .i64 a1, .int .i64 a2, .int .i64 a3, .slice np l4 nc, .slice vp l5 vc, .int .i64 a6, .int .i64 a7, .int .i64 a8, .slice q l9 c] #[.int .i64 a1, .int .i64 a2, .int .i64 a3, .slice xp l4 xc, .slice yp l5 yc, .int .i64 a6, .int .i64 a7, .int .i64 a8, .slice zq l9 zc]) := fun w' ho => S4.out.step (ho.below (Nat.le_refl _) (by simp))
  have HR1 : Hid (∀ w', Only [] w4 w' → w'.heap[p1]? = some (.cells CA 25 (0, 0)) ∧ CA.size = 9) := by rw [← HP1.out, ← HCA.out]; exact fun w' ho => ⟨(HST.out w' ho).box, rfl⟩
  have HR3 : Hid (∀ w', Only [] w4 w' → w'.heap[p3]? = some (.cells CB 30 (0, 0)) ∧ CB.size = 9) := by rw [← HP3.out, ← HCB.out]; exact fun w' ho => ⟨(HST.out w' ho).box3, rfl⟩
  have HRP : Hid (∀ w', Only [] w4 w' → Calls Try.prog 13 #[.agg CA] w' fun e u => e = .returned (.bool true) ∧ Below w'.heap.size w' u) := by
    rw [← HCA.out]
    exact fun w' ho => HRG.out w' (HST.out w' ho).bel
  have HRD : Hid (∀ w', Only [] w4 w' → Calls Try.prog 14 #[.agg CB] w' fun e u => e = .returned (.bool true) ∧ Below w'.heap.size w' u) := by
    rw [← HCB.out]
    intro w' ho
    have := rRight_any A _ w' (F4.out w' (ho.below (Nat.le_refl _) (by simp)))
    rw [HR.out] at this
    exact this
  rw [HP3.out, HP1.out]
  have RB : ∀ k w w', Below w.heap.size w w' → (fun (_ : Nat) (_ : World) => True) k w → (fun (_ : Nat) (_ : World) => True) k w' := fun _ _ _ _ _ => trivial
  refine wp_region_st (en7 CA CB true) (fun u u' => Only [] u u') (SeqS [] (fun (_ : Nat) (_ : World) => True)) (by kernel_rfl) (only_drew _ _) (only_trans _) (en7_kept CA CB true) (by kernel_rfl) (SeqS.start (trivial)) ?_ ?_
  · intro i o a' w' f hi inv hS hfi hfw hpre
    have ho : Only [] w4 w' := inv.grow
    have hlt : i < 5 := (Array.getElem?_eq_some_iff.1 hi).1
    obtain rfl|rfl|rfl|rfl|rfl : i = 0 ∨ i = 1 ∨ i = 2 ∨ i = 3 ∨ i = 4 := by omega
    · obtain rfl := Option.some.inj hi
      have h0 : a'.tmps.getD 1 undef = (.pointer (some ⟨p1, 0, none⟩)) := by rw [inv.old 1 (notDst_spec (by kernel_rfl))]; rfl
      exact sq_value _ rfl rfl (load_run 25 1 p1 (0) _ rfl h0 (ld25 (HR1.out w' ho))) (Below.refl _ _) (by decide) hS RB rfl
    · obtain rfl := Option.some.inj hi
      have h0 : a'.tmps.getD 20 undef = _ := pre_of hpre 0 20 (by kernel_rfl) (by kernel_rfl)
      refine sq_quiet 13 #[a'.tmps.getD 20 undef] rfl rfl (by kernel_rfl) (by decide) hS ?_
      rw [h0]
      exact (HRP.out w' ho).mono (by rintro e u ⟨rfl, h2⟩; exact ⟨_, rfl, Only.of_below h2 _, (fun _ h => h), rfl⟩)
    · obtain rfl := Option.some.inj hi
      have h0 : a'.tmps.getD 3 undef = (.pointer (some ⟨p3, 0, none⟩)) := by rw [inv.old 3 (notDst_spec (by kernel_rfl))]; rfl
      exact sq_value _ rfl rfl (load_run 30 3 p3 (0) _ rfl h0 (ld30 (HR3.out w' ho))) (Below.refl _ _) (by decide) hS RB rfl
    · obtain rfl := Option.some.inj hi
      have h0 : a'.tmps.getD 22 undef = _ := pre_of hpre 2 22 (by kernel_rfl) (by kernel_rfl)
      refine sq_quiet 14 #[a'.tmps.getD 22 undef] rfl rfl (by kernel_rfl) (by decide) hS ?_
      rw [h0]
      exact (HRD.out w' ho).mono (by rintro e u ⟨rfl, h2⟩; exact ⟨_, rfl, Only.of_below h2 _, (fun _ h => h), rfl⟩)
    · obtain rfl := Option.some.inj hi
      have h0 : a'.tmps.getD 21 undef = _ := pre_of hpre 1 21 (by kernel_rfl) (by kernel_rfl)
      have h1 : a'.tmps.getD 23 undef = _ := pre_of hpre 3 23 (by kernel_rfl) (by kernel_rfl)
      exact sq_value _ rfl rfl (neqB_run 21 23 _ _ rfl h0 h1) (Below.refl _ _) (by decide) hS RB (by show Value.bool _ = _; simp)
  · intro a' w5 f inv hS hall hd
    have hk4 := hd 4 24 (by kernel_rfl)
    have ho : Only [] w4 w5 := inv.grow
    have hdf : a'.defers = [] := inv.defers
    have hsz : a'.tmps.size = 60 := inv.size
    have e := frame3_7 hsz (fun t ht => inv.old t (dstsIn_spec (ts := [20, 21, 22, 23, 24]) (by kernel_rfl) t ht))
    have hR := hS.done (fun c hc => hall c (show c < 5 by simp at hc <;> omega))
    clear inv hd hsz hall hS
    obtain ⟨tmps, defers⟩ := a'
    obtain rfl : defers = [] := hdf
    replace e : tmps = _ := e
    replace hk4 : tmps.getD 24 undef = (.bool false) := hk4
    generalize tmps.getD 20 undef = x20 at *
    generalize tmps.getD 21 undef = x21 at *
    generalize tmps.getD 22 undef = x22 at *
    generalize tmps.getD 23 undef = x23 at *
    generalize tmps.getD 24 undef = x24 at *
    simp only [Array.getD_eq_getD_getElem?, List.getElem?_toArray, List.getElem?_cons_succ, List.getElem?_cons_zero, Option.getD_some] at e
    subst e
    subst hk4
    have e1 : w.heap.size = p1 := HP1.out
    have e3 : w3.heap.size = p3 := HP3.out
    subst e1 e3
    have B5 : Below w4.heap.size w4 w5 := ho.below (Nat.le_refl _) (by simp)
    have S5H : Hid (St5 w w5 w.heap.size w3.heap.size #[.int .i64 a1, .int .i64 a2, .int .i64 a3, .slice np l4 nc, .slice vp l5 vc, .int .i64 a6, .int .i64 a7, .int .i64 a8, .slice q l9 c] #[.int .i64 a1, .int .i64 a2, .int .i64 a3, .slice xp l4 xc, .slice yp l5 yc, .int .i64 a6, .int .i64 a7, .int .i64 a8, .slice zq l9 zc]) := HST.out w5 ho
    have F5 : Hid (∀ W, Below w5.heap.size w5 W → EnIs W (.agg #[.int .i64 a1, .int .i64 a2, .int .i64 a3, .slice xp l4 xc, .slice yp l5 yc, .int .i64 a6, .int .i64 a7, .int .i64 a8, .slice zq l9 zc]) A) := fun W h => F4.out W (B5.trans (bel_le h B5.size))
    have HC14 : Calls Try.prog 14 #[.agg #[.int .i64 a1, .int .i64 a2, .int .i64 a3, .slice xp l4 xc, .slice yp l5 yc, .int .i64 a6, .int .i64 a7, .int .i64 a8, .slice zq l9 zc]] w5 fun e u => e = .returned (.bool true) ∧ Hid (Below w5.heap.size w5 u) := by
      have := rRight_any A _ w5 (F5.out w5 (Below.refl _ _))
      rw [HR.out] at this
      exact this
    have E5 : Hid (Src w5 (.slice q1 n c1) bs) := E4.out.below B5
    obtain ⟨u0, u1, u2, u3, u4, u5, u6, u7, u8⟩ := S5H.out.cells3
    clear ho hR HST HR1 HR3 HRP HRD HCA HCB B4 S4 F4 B5 E4
    go_wp2_with (first | (go_at_call 14; with_reducible refine HC14.mono ?_; rintro e w6 ⟨rfl, B6⟩))
    have S6 : Hid (St5 w w6 w.heap.size w3.heap.size #[.int .i64 a1, .int .i64 a2, .int .i64 a3, .slice np l4 nc, .slice vp l5 vc, .int .i64 a6, .int .i64 a7, .int .i64 a8, .slice q l9 c] #[.int .i64 a1, .int .i64 a2, .int .i64 a3, .slice xp l4 xc, .slice yp l5 yc, .int .i64 a6, .int .i64 a7, .int .i64 a8, .slice zq l9 zc]) := S5H.out.step B6.out
    have F6 : Hid (∀ W, Below w6.heap.size w6 W → EnIs W (.agg #[.int .i64 a1, .int .i64 a2, .int .i64 a3, .slice xp l4 xc, .slice yp l5 yc, .int .i64 a6, .int .i64 a7, .int .i64 a8, .slice zq l9 zc]) A) := fun W h => F5.out W (B6.out.trans (bel_le h B6.out.size))
    have E6 : Hid (Src w6 (.slice q1 n c1) bs) := E5.out.below B6.out
    clear B6 S5H F5 E5 HC14 u0 u1 u2 u3 u4 u5 u6 u7 u8
    go_wp2_with fail
    refine (HC15 _ _ _ _ _ _ _ _ _ _ S6 E6).mono ?_
    rintro e w7 ⟨xp1, xc1, yp1, yc1, zq1, zc1, rfl, G7⟩
    clear HC15
    go_wp2_with fail
    obtain ⟨W8, HW8⟩ : ∃ W8, Hid (w7.alloc (.cells #[.int .i64 a1, .int .i64 a2, .int .i64 a3, .slice xp1 l4 xc1, .slice yp1 l5 yc1, .int .i64 a6, .int .i64 a7, .int .i64 a8, .slice zq1 l9 zc1] 25) = W8) := ⟨_, rfl⟩
    obtain ⟨p3, HP3⟩ : ∃ p3, Hid (w3.heap.size = p3) := ⟨_, rfl⟩
    obtain ⟨p6, HP6⟩ : ∃ p6, Hid (w7.heap.size = p6) := ⟨_, rfl⟩
    obtain ⟨CB, HCB⟩ : ∃ CB : Array Value, Hid (#[.int .i64 a1, .int .i64 a2, .int .i64 a3, .slice xp l4 xc, .slice yp l5 yc, .int .i64 a6, .int .i64 a7, .int .i64 a8, .slice zq l9 zc] = CB) := ⟨_, rfl⟩
    obtain ⟨CC, HCC⟩ : ∃ CC : Array Value, Hid (#[.int .i64 a1, .int .i64 a2, .int .i64 a3, .slice xp1 l4 xc1, .slice yp1 l5 yc1, .int .i64 a6, .int .i64 a7, .int .i64 a8, .slice zq1 l9 zc1] = CC) := ⟨_, rfl⟩
    have HG : Hid (Below w6.heap.size w6 W8 ∧ W8.heap[p6]? = some (.cells CC 25 (0, 0)) ∧ EnIs W8 (.agg CC) A) := by rw [← HW8.out, ← HP6.out, ← HCC.out]; exact G7.out
    have HBL : Hid (∀ w', Only [] W8 w' → Below w6.heap.size w6 w') := fun w' ho => HG.out.1.trans (bel_le (ho.below (Nat.le_refl _) (by simp)) HG.out.1.size)
    have HSZ : Hid (CC.size = 9) := by rw [← HCC.out]; rfl
    have HR3 : Hid (∀ w', Only [] W8 w' → w'.heap[p3]? = some (.cells CB 30 (0, 0)) ∧ CB.size = 9) := by rw [← HP3.out, ← HCB.out]; exact fun w' ho => ⟨(S6.out.step (HBL.out w' ho)).box3, rfl⟩
    have HR6 : Hid (∀ w', Only [] W8 w' → w'.heap[p6]? = some (.cells CC 25 (0, 0)) ∧ CC.size = 9) := fun w' ho => ⟨((ho.below (Nat.le_refl _) (by simp)).block _ (Array.getElem?_eq_some_iff.1 HG.out.2.1).1).trans HG.out.2.1, HSZ.out⟩
    have HBS2 : Hid (∀ w', Only [] W8 w' → SrcV [] bs (.slice q1 n c1) w') := fun w' ho => srcV_of (E6.out.below (HBL.out w' ho))
    have HEN : Hid (∀ w', Only [] W8 w' → EnIs w' (.agg CB) A) := by rw [← HCB.out]; exact fun w' ho => F6.out w' (HBL.out w' ho)
    have HBY : Hid (∀ w', Only [] W8 w' → Calls Try.prog 16 #[.agg CB] w' fun e u => ∃ v, e = .returned v ∧ Src u v bs ∧ Below w'.heap.size w' u) := fun w' ho => by
      have := rBytes_any A _ w' (HEN.out w' ho) HR.out
      rw [HBS.out] at this
      exact this
    have HMA : Hid (∀ w', Only [] W8 w' → Calls Try.prog 11 #[.agg CC] w' fun e u => ∃ v, e = .returned v ∧ EnIs u v A ∧ Below w'.heap.size w' u) := fun w' ho => made_any A _ w' (HG.out.2.2.below (ho.below (Nat.le_refl _) (by simp))) (HWL.out)
    have HSS : Hid (∀ w', Only [] W8 w' → ∀ v, EnIs w' v A → Calls Try.prog 17 #[v, .agg CB] w' fun e u => e = .returned (.bool true) ∧ Below w'.heap.size w' u) := fun w' ho v hv => by
      have := rSame_any A A _ _ w' hv (HEN.out w' ho)
      rw [(same_iff A A).2 rfl] at this
      exact this
    have HFI : Hid (∀ w', Only [] W8 w' → Below w.heap.size w w') := fun w' ho => (S6.out.step (HBL.out w' ho)).bel
    rw [HW8.out, HP6.out, HP3.out]
    clear HW8 HP6 HP3 HCB HCC G7 HG HBL HSZ S6 E6 F6 HEN HR HWL
    clear HBS
    have HBS := HBS2
    have RB : ∀ k w w', Below w.heap.size w w' → (fun (_ : Nat) (_ : World) => True) k w → (fun (_ : Nat) (_ : World) => True) k w' := fun _ _ _ _ _ => trivial
    refine wp_region_st (en12 CB CC bs A) (fun u u' => Only [] u u') (SeqS [] (fun (_ : Nat) (_ : World) => True)) (by kernel_rfl) (only_drew _ _) (only_trans _) (en12_kept CB CC bs A) (by kernel_rfl) (SeqS.start (trivial)) ?_ ?_
    · intro i o a' w' f hi inv hS hfi hfw hpre
      have ho : Only [] W8 w' := inv.grow
      have hlt : i < 21 := (Array.getElem?_eq_some_iff.1 hi).1
      obtain rfl|rfl|rfl|rfl|rfl|rfl|rfl|rfl|rfl|rfl|rfl|rfl|rfl|rfl|rfl|rfl|rfl|rfl|rfl|rfl|rfl : i = 0 ∨ i = 1 ∨ i = 2 ∨ i = 3 ∨ i = 4 ∨ i = 5 ∨ i = 6 ∨ i = 7 ∨ i = 8 ∨ i = 9 ∨ i = 10 ∨ i = 11 ∨ i = 12 ∨ i = 13 ∨ i = 14 ∨ i = 15 ∨ i = 16 ∨ i = 17 ∨ i = 18 ∨ i = 19 ∨ i = 20 := by omega
      · obtain rfl := Option.some.inj hi
        exact sq_value _ rfl rfl rfl (Below.refl _ _) (by decide) hS RB (by show a'.tmps.getD 5 undef = _; rw [inv.old 5 (notDst_spec (by kernel_rfl))]; rfl)
      · obtain rfl := Option.some.inj hi
        have h0 : a'.tmps.getD 40 undef = _ := pre_of hpre 0 40 (by kernel_rfl) (by kernel_rfl)
        exact sq_value _ rfl rfl (eqlE_run 40 _ _ rfl h0) (Below.refl _ _) (by decide) hS RB (by show Value.bool _ = _; simp)
      · obtain rfl := Option.some.inj hi
        have h0 := pre_of hpre 1 41 (by kernel_rfl) (by kernel_rfl)
        exact sq_value _ rfl rfl (rfl) (Below.refl _ _) (by decide) hS RB h0
      · obtain rfl := Option.some.inj hi
        have hgu : a'.tmps.getD 42 undef = _ := pre_of hpre 2 42 (by kernel_rfl) (by kernel_rfl)
        exact sq_value _ rfl (wanted_of 2 42 true rfl (by kernel_rfl) hgu) rfl (Below.refl _ _) (by decide) hS RB (by show SrcV _ _ (a'.tmps.getD 4 undef) _; rw [inv.old 4 (notDst_spec (by kernel_rfl))]; exact HBS.out w' ho)
      · obtain rfl := Option.some.inj hi
        have hgu : a'.tmps.getD 42 undef = _ := pre_of hpre 2 42 (by kernel_rfl) (by kernel_rfl)
        have h0 := pre_of hpre 3 43 (by kernel_rfl) (by kernel_rfl)
        exact sq_value _ rfl (wanted_of 2 42 true rfl (by kernel_rfl) hgu) (conv_run 43 rfl (h0.1)) (Below.refl _ _) (by decide) hS RB rfl
      · obtain rfl := Option.some.inj hi
        have hgu : a'.tmps.getD 42 undef = _ := pre_of hpre 2 42 (by kernel_rfl) (by kernel_rfl)
        have h0 : a'.tmps.getD 3 undef = (.pointer (some ⟨p3, 0, none⟩)) := by rw [inv.old 3 (notDst_spec (by kernel_rfl))]; rfl
        exact sq_value _ rfl (wanted_of 2 42 true rfl (by kernel_rfl) hgu) (load_run 30 3 p3 (0) _ rfl h0 (ld30 (HR3.out w' ho))) (Below.refl _ _) (by decide) hS RB rfl
      · obtain rfl := Option.some.inj hi
        have hgu : a'.tmps.getD 42 undef = _ := pre_of hpre 2 42 (by kernel_rfl) (by kernel_rfl)
        have h0 : a'.tmps.getD 45 undef = _ := pre_of hpre 5 45 (by kernel_rfl) (by kernel_rfl)
        refine sq_quiet 16 #[a'.tmps.getD 45 undef] rfl (wanted_of 2 42 true rfl (by kernel_rfl) hgu) (by kernel_rfl) (by decide) hS ?_
        rw [h0]
        exact (HBY.out w' ho).mono (by rintro e u ⟨v, rfl, h1, h2⟩; exact ⟨_, rfl, Only.of_below h2 _, (fun _ h => h), srcV_of h1⟩)
      · obtain rfl := Option.some.inj hi
        have hgu : a'.tmps.getD 42 undef = _ := pre_of hpre 2 42 (by kernel_rfl) (by kernel_rfl)
        have h0 := pre_of hpre 6 46 (by kernel_rfl) (by kernel_rfl)
        exact sq_value _ rfl (wanted_of 2 42 true rfl (by kernel_rfl) hgu) (conv_run 46 rfl (h0.1)) (Below.refl _ _) (by decide) hS RB rfl
      · obtain rfl := Option.some.inj hi
        have hgu : a'.tmps.getD 42 undef = _ := pre_of hpre 2 42 (by kernel_rfl) (by kernel_rfl)
        have h0 : a'.tmps.getD 44 undef = _ := pre_of hpre 4 44 (by kernel_rfl) (by kernel_rfl)
        have h1 : a'.tmps.getD 47 undef = _ := pre_of hpre 7 47 (by kernel_rfl) (by kernel_rfl)
        exact sq_value _ rfl (wanted_of 2 42 true rfl (by kernel_rfl) hgu) (eqlS_run 44 47 _ _ rfl h0 h1) (Below.refl _ _) (by decide) hS RB (by show Value.bool _ = _; simp)
      · obtain rfl := Option.some.inj hi
        have h0 : a'.tmps.getD 42 undef = _ := pre_of hpre 2 42 (by kernel_rfl) (by kernel_rfl)
        have h1 : a'.tmps.getD 48 undef = _ := pre_of hpre 8 48 (by kernel_rfl) (by kernel_rfl)
        exact sq_value _ rfl rfl (pick_run 42 true _ _ _ _ rfl h0 h1 rfl) (Below.refl _ _) (by decide) hS RB rfl
      · obtain rfl := Option.some.inj hi
        have h0 := pre_of hpre 9 49 (by kernel_rfl) (by kernel_rfl)
        exact sq_value _ rfl rfl (rfl) (Below.refl _ _) (by decide) hS RB h0
      · obtain rfl := Option.some.inj hi
        have hgu : a'.tmps.getD 50 undef = _ := pre_of hpre 10 50 (by kernel_rfl) (by kernel_rfl)
        exact sq_value _ rfl (wanted_of 10 50 true rfl (by kernel_rfl) hgu) rfl (Below.refl _ _) (by decide) hS RB (by show a'.tmps.getD 7 undef = _; rw [inv.old 7 (notDst_spec (by kernel_rfl))]; rfl)
      · obtain rfl := Option.some.inj hi
        have hgu : a'.tmps.getD 50 undef = _ := pre_of hpre 10 50 (by kernel_rfl) (by kernel_rfl)
        have h0 : a'.tmps.getD 51 undef = _ := pre_of hpre 11 51 (by kernel_rfl) (by kernel_rfl)
        exact sq_value _ rfl (wanted_of 10 50 true rfl (by kernel_rfl) hgu) (eqlE_run 51 _ _ rfl h0) (Below.refl _ _) (by decide) hS RB (by show Value.bool _ = _; simp)
      · obtain rfl := Option.some.inj hi
        have h0 : a'.tmps.getD 50 undef = _ := pre_of hpre 10 50 (by kernel_rfl) (by kernel_rfl)
        have h1 : a'.tmps.getD 52 undef = _ := pre_of hpre 12 52 (by kernel_rfl) (by kernel_rfl)
        exact sq_value _ rfl rfl (pick_run 50 true _ _ _ _ rfl h0 h1 rfl) (Below.refl _ _) (by decide) hS RB rfl
      · obtain rfl := Option.some.inj hi
        have h0 := pre_of hpre 13 53 (by kernel_rfl) (by kernel_rfl)
        exact sq_value _ rfl rfl (rfl) (Below.refl _ _) (by decide) hS RB h0
      · obtain rfl := Option.some.inj hi
        have hgu : a'.tmps.getD 54 undef = _ := pre_of hpre 14 54 (by kernel_rfl) (by kernel_rfl)
        have h0 : a'.tmps.getD 6 undef = (.pointer (some ⟨p6, 0, none⟩)) := by rw [inv.old 6 (notDst_spec (by kernel_rfl))]; rfl
        exact sq_value _ rfl (wanted_of 14 54 true rfl (by kernel_rfl) hgu) (load_run 25 6 p6 (0) _ rfl h0 (ld25 (HR6.out w' ho))) (Below.refl _ _) (by decide) hS RB rfl
      · obtain rfl := Option.some.inj hi
        have hgu : a'.tmps.getD 54 undef = _ := pre_of hpre 14 54 (by kernel_rfl) (by kernel_rfl)
        have h0 : a'.tmps.getD 55 undef = _ := pre_of hpre 15 55 (by kernel_rfl) (by kernel_rfl)
        refine sq_quiet 11 #[a'.tmps.getD 55 undef] rfl (wanted_of 14 54 true rfl (by kernel_rfl) hgu) (by kernel_rfl) (by decide) hS ?_
        rw [h0]
        exact (HMA.out w' ho).mono (by rintro e u ⟨v, rfl, h1, h2⟩; exact ⟨_, rfl, Only.of_below h2 _, (fun _ h => h), h1⟩)
      · obtain rfl := Option.some.inj hi
        have hgu : a'.tmps.getD 54 undef = _ := pre_of hpre 14 54 (by kernel_rfl) (by kernel_rfl)
        have h0 : a'.tmps.getD 3 undef = (.pointer (some ⟨p3, 0, none⟩)) := by rw [inv.old 3 (notDst_spec (by kernel_rfl))]; rfl
        exact sq_value _ rfl (wanted_of 14 54 true rfl (by kernel_rfl) hgu) (load_run 30 3 p3 (0) _ rfl h0 (ld30 (HR3.out w' ho))) (Below.refl _ _) (by decide) hS RB rfl
      · obtain rfl := Option.some.inj hi
        have hgu : a'.tmps.getD 54 undef = _ := pre_of hpre 14 54 (by kernel_rfl) (by kernel_rfl)
        have h0 := pre_of hpre 16 56 (by kernel_rfl) (by kernel_rfl)
        have h1 : a'.tmps.getD 57 undef = _ := pre_of hpre 17 57 (by kernel_rfl) (by kernel_rfl)
        refine sq_quiet 17 #[a'.tmps.getD 56 undef, a'.tmps.getD 57 undef] rfl (wanted_of 14 54 true rfl (by kernel_rfl) hgu) (by kernel_rfl) (by decide) hS ?_
        rw [h1]
        exact (HSS.out w' ho _ h0).mono (by rintro e u ⟨rfl, h2⟩; exact ⟨_, rfl, Only.of_below h2 _, (fun _ h => h), rfl⟩)
      · obtain rfl := Option.some.inj hi
        have h0 : a'.tmps.getD 54 undef = _ := pre_of hpre 14 54 (by kernel_rfl) (by kernel_rfl)
        have h1 : a'.tmps.getD 58 undef = _ := pre_of hpre 18 58 (by kernel_rfl) (by kernel_rfl)
        exact sq_value _ rfl rfl (pick_run 54 true _ _ _ _ rfl h0 h1 rfl) (Below.refl _ _) (by decide) hS RB rfl
      · obtain rfl := Option.some.inj hi
        have h0 := pre_of hpre 19 59 (by kernel_rfl) (by kernel_rfl)
        exact sq_value _ rfl rfl (rfl) (Below.refl _ _) (by decide) hS RB h0
    · intro a' w9 f inv hS hall hd
      have hk20 := hd 20 2 (by kernel_rfl)
      have ho : Only [] W8 w9 := inv.grow
      have hdf : a'.defers = [] := inv.defers
      have hsz : a'.tmps.size = 60 := inv.size
      have e := frame3_12 hsz (fun t ht => inv.old t (dstsIn_spec (ts := [2, 40, 41, 42, 43, 44, 45, 46, 47, 48, 49, 50, 51, 52, 53, 54, 55, 56, 57, 58, 59]) (by kernel_rfl) t ht))
      have hR := hS.done (fun c hc => hall c (show c < 21 by simp at hc <;> omega))
      clear inv hd hsz hall hS
      obtain ⟨tmps, defers⟩ := a'
      obtain rfl : defers = [] := hdf
      replace e : tmps = _ := e
      replace hk20 : tmps.getD 2 undef = (.bool true) := hk20
      generalize tmps.getD 2 undef = x2 at *
      generalize tmps.getD 40 undef = x40 at *
      generalize tmps.getD 41 undef = x41 at *
      generalize tmps.getD 42 undef = x42 at *
      generalize tmps.getD 43 undef = x43 at *
      generalize tmps.getD 44 undef = x44 at *
      generalize tmps.getD 45 undef = x45 at *
      generalize tmps.getD 46 undef = x46 at *
      generalize tmps.getD 47 undef = x47 at *
      generalize tmps.getD 48 undef = x48 at *
      generalize tmps.getD 49 undef = x49 at *
      generalize tmps.getD 50 undef = x50 at *
      generalize tmps.getD 51 undef = x51 at *
      generalize tmps.getD 52 undef = x52 at *
      generalize tmps.getD 53 undef = x53 at *
      generalize tmps.getD 54 undef = x54 at *
      generalize tmps.getD 55 undef = x55 at *
      generalize tmps.getD 56 undef = x56 at *
      generalize tmps.getD 57 undef = x57 at *
      generalize tmps.getD 58 undef = x58 at *
      generalize tmps.getD 59 undef = x59 at *
      simp only [Array.getD_eq_getD_getElem?, List.getElem?_toArray, List.getElem?_cons_succ, List.getElem?_cons_zero, Option.getD_some] at e
      subst e
      subst hk20
      go_wp2_with fail
      go_ret
      exact ⟨rfl, HFI.out _ ho⟩
theorem encodes_any (a : En) (va : Value) (w : World) (ha : EnIs w va a) : Calls Try.prog 3 #[va] w fun e w' => e = .returned (.bool true) ∧ Below w.heap.size w w' := by
  cases hs : small a with
  | false => exact enc_e1 a va w ha hs
  | true =>
    cases hr : right a with
    | false => exact enc_f a va w ha hs hr
    | true => exact enc_t a va w ha hs hr
end Go.Proofs.Ytiihdpkpgcmioaa.E9
