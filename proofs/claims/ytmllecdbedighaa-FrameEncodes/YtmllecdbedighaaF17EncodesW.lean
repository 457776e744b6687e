/- The walk of FrameEncodes. -/
import Derived.Test.YtmllecdbedighaaF17EncV
namespace Go.Proofs.Ytmllecdbedighaa.F17
open Go.RowKit C8 E9
/-- The frame in its box, and the document's one in another. -/
structure St5 (w W : World) (b b3 : Nat) (C : Array Value) : Prop where
  bel : Below w.heap.size w W
  box : W.heap[b]? = some (.cells C 25 (0, 0))
  box3 : W.heap[b3]? = some (.cells C 28 (0, 0))
theorem St5.step {w W W' : World} {b b3 : Nat} {C : Array Value} (h : St5 w W b b3 C) (hb : Below W.heap.size W W') : St5 w W' b b3 C :=
  ⟨h.bel.trans (bel_le hb h.bel.size), (hb.block _ (Array.getElem?_eq_some_iff.1 h.box).1).trans h.box, (hb.block _ (Array.getElem?_eq_some_iff.1 h.box3).1).trans h.box3⟩
theorem St5.cells3 {w W : World} {b b3 : Nat} {x0 x1 x2 x3 x4 : Value} (h : St5 w W b b3 #[x0, x1, x2, x3, x4]) : W.cell? ⟨b3, 0, none⟩ = some (x0) ∧ W.cell? ⟨b3, 1, none⟩ = some (x1) ∧ W.cell? ⟨b3, 2, none⟩ = some (x2) ∧ W.cell? ⟨b3, 3, none⟩ = some (x3) ∧ W.cell? ⟨b3, 4, none⟩ = some (x4) := by
  refine ⟨?_, ?_, ?_, ?_, ?_⟩ <;> (rw [cell_of_row _ _ _ _ _ _ h.box3]; rfl)
set_option maxHeartbeats 4000000 in
theorem enc_e1 (f : Fr) (v : Value) (w : World) (hf : FrIs w v f) (hs : small f = false) : Calls Try.prog 3 #[v] w fun e w' => e = .returned (.bool true) ∧ Below w.heap.size w w' := by
  have hA := hf
  obtain ⟨q, c, sp, sc, rfl, -⟩ := hf
  have HEN : Hid (∀ W, Below w.heap.size w W → FrIs W (.agg (FrV f q c sp sc)) f) := fun W h => hA.below h
  have HC9 : ∀ W, Hid (St9 w W w.heap.size (FrV f q c sp sc)) → Calls Try.prog 9 #[] W fun e w' => e = .returned (.bool true) ∧ Hid (St9 w w' w.heap.size (FrV f q c sp sc)) ∧ w'.cell? ⟨w.heap.size, 0, none⟩ = some (.int .i64 f.kind) ∧ w'.cell? ⟨w.heap.size, 1, none⟩ = some (.int .i64 f.coll) ∧ w'.cell? ⟨w.heap.size, 2, none⟩ = some (.int .i64 f.idx) ∧ w'.cell? ⟨w.heap.size, 3, none⟩ = some (.slice q f.links.length c) ∧ w'.cell? ⟨w.heap.size, 4, none⟩ = some (.slice sp f.sum.length sc) := fun W h => (anchor_any W).mono (by rintro e w' ⟨rfl, hb⟩; exact ⟨rfl, h.out.step hb, (h.out.step hb).cells⟩)
  have HC10 : ∀ W, Hid (St9 w W w.heap.size (FrV f q c sp sc)) → Calls Try.prog 10 #[.agg (FrV f q c sp sc)] W fun e w' => e = .returned (.bool (small f)) ∧ Hid (St9 w w' w.heap.size (FrV f q c sp sc)) ∧ w'.cell? ⟨w.heap.size, 0, none⟩ = some (.int .i64 f.kind) ∧ w'.cell? ⟨w.heap.size, 1, none⟩ = some (.int .i64 f.coll) ∧ w'.cell? ⟨w.heap.size, 2, none⟩ = some (.int .i64 f.idx) ∧ w'.cell? ⟨w.heap.size, 3, none⟩ = some (.slice q f.links.length c) ∧ w'.cell? ⟨w.heap.size, 4, none⟩ = some (.slice sp f.sum.length sc) ∧ (∀ o, (w'.alloc o).cell? ⟨w.heap.size, 0, none⟩ = some (.int .i64 f.kind)) ∧ (∀ o, (w'.alloc o).cell? ⟨w.heap.size, 1, none⟩ = some (.int .i64 f.coll)) ∧ (∀ o, (w'.alloc o).cell? ⟨w.heap.size, 2, none⟩ = some (.int .i64 f.idx)) ∧ (∀ o, (w'.alloc o).cell? ⟨w.heap.size, 3, none⟩ = some (.slice q f.links.length c)) ∧ (∀ o, (w'.alloc o).cell? ⟨w.heap.size, 4, none⟩ = some (.slice sp f.sum.length sc)) := fun W h => (small_any f _ W (HEN.out W h.out.bel)).mono (by
    rintro e w' ⟨rfl, hb⟩
    obtain ⟨z0, z1, z2, z3, z4⟩ := (h.out.step hb).cells
    have hal := fun o => ((h.out.step hb).step (bel_alloc (Nat.le_refl _) o)).cells
    exact ⟨rfl, h.out.step hb, z0, z1, z2, z3, z4, fun o => (hal o).1, fun o => (hal o).2.1, fun o => (hal o).2.2.1, fun o => (hal o).2.2.2.1, fun o => (hal o).2.2.2.2⟩)
  have HS0 : Hid (St9 w (w.alloc (.cells (FrV f q c sp sc) 25)) w.heap.size (FrV f q c sp sc)) := St9.start w _
  clear hA HEN
  rw [hs] at HC10
  clear hs
  obtain ⟨k, cl, i, ls, t⟩ := f
  simp only [FrV] at HC9 HC10 HS0 ⊢
  generalize ls.length = n3 at *
  generalize t.length = n4 at *
  go_enter Try.func3, Try.ntmps3
  go_wp2_with (first | (go_at_call 9; refine (HC9 _ HS0).mono ?_; rintro e w1 ⟨rfl, S1, d0, d1, d2, d3, d4⟩) | (go_at_call 10; with_reducible refine (HC10 _ S1).mono ?_; rintro e w2 ⟨rfl, S2, e0, e1, e2, e3, e4, g0, g1, g2, g3, g4⟩))
  go_ret
  exact ⟨rfl, S2.out.bel⟩
set_option maxHeartbeats 8000000 in
theorem enc_f (f : Fr) (v : Value) (w : World) (hf : FrIs w v f) (hs : small f = true) (hr : right f = false) : Calls Try.prog 3 #[v] w fun e w' => e = .returned (.bool true) ∧ Below w.heap.size w w' := by
  have hA := hf
  obtain ⟨q, c, sp, sc, rfl, -⟩ := hf
  have HEN : Hid (∀ W, Below w.heap.size w W → FrIs W (.agg (FrV f q c sp sc)) f) := fun W h => hA.below h
  have HC9 : ∀ W, Hid (St9 w W w.heap.size (FrV f q c sp sc)) → Calls Try.prog 9 #[] W fun e w' => e = .returned (.bool true) ∧ Hid (St9 w w' w.heap.size (FrV f q c sp sc)) ∧ w'.cell? ⟨w.heap.size, 0, none⟩ = some (.int .i64 f.kind) ∧ w'.cell? ⟨w.heap.size, 1, none⟩ = some (.int .i64 f.coll) ∧ w'.cell? ⟨w.heap.size, 2, none⟩ = some (.int .i64 f.idx) ∧ w'.cell? ⟨w.heap.size, 3, none⟩ = some (.slice q f.links.length c) ∧ w'.cell? ⟨w.heap.size, 4, none⟩ = some (.slice sp f.sum.length sc) := fun W h => (anchor_any W).mono (by rintro e w' ⟨rfl, hb⟩; exact ⟨rfl, h.out.step hb, (h.out.step hb).cells⟩)
  have HC10 : ∀ W, Hid (St9 w W w.heap.size (FrV f q c sp sc)) → Calls Try.prog 10 #[.agg (FrV f q c sp sc)] W fun e w' => e = .returned (.bool (small f)) ∧ Hid (St9 w w' w.heap.size (FrV f q c sp sc)) ∧ w'.cell? ⟨w.heap.size, 0, none⟩ = some (.int .i64 f.kind) ∧ w'.cell? ⟨w.heap.size, 1, none⟩ = some (.int .i64 f.coll) ∧ w'.cell? ⟨w.heap.size, 2, none⟩ = some (.int .i64 f.idx) ∧ w'.cell? ⟨w.heap.size, 3, none⟩ = some (.slice q f.links.length c) ∧ w'.cell? ⟨w.heap.size, 4, none⟩ = some (.slice sp f.sum.length sc) ∧ (∀ o, (w'.alloc o).cell? ⟨w.heap.size, 0, none⟩ = some (.int .i64 f.kind)) ∧ (∀ o, (w'.alloc o).cell? ⟨w.heap.size, 1, none⟩ = some (.int .i64 f.coll)) ∧ (∀ o, (w'.alloc o).cell? ⟨w.heap.size, 2, none⟩ = some (.int .i64 f.idx)) ∧ (∀ o, (w'.alloc o).cell? ⟨w.heap.size, 3, none⟩ = some (.slice q f.links.length c)) ∧ (∀ o, (w'.alloc o).cell? ⟨w.heap.size, 4, none⟩ = some (.slice sp f.sum.length sc)) := fun W h => (small_any f _ W (HEN.out W h.out.bel)).mono (by
    rintro e w' ⟨rfl, hb⟩
    obtain ⟨z0, z1, z2, z3, z4⟩ := (h.out.step hb).cells
    have hal := fun o => ((h.out.step hb).step (bel_alloc (Nat.le_refl _) o)).cells
    exact ⟨rfl, h.out.step hb, z0, z1, z2, z3, z4, fun o => (hal o).1, fun o => (hal o).2.1, fun o => (hal o).2.2.1, fun o => (hal o).2.2.2.1, fun o => (hal o).2.2.2.2⟩)
  have HS0 : Hid (St9 w (w.alloc (.cells (FrV f q c sp sc) 25)) w.heap.size (FrV f q c sp sc)) := St9.start w _
  rw [hs] at HC10
  obtain ⟨A, HAA⟩ : ∃ A : Fr, Hid (f = A) := ⟨_, rfl⟩
  have HR : Hid (right A = false) := by have := hr; rw [HAA.out] at this; exact this
  have HFA : Hid (∀ W, Below w.heap.size w W → FrIs W (.agg (FrV f q c sp sc)) A) := fun W h => HAA.out ▸ hA.below h
  have HC11 : ∀ W b3, Hid (St5 w W w.heap.size b3 (FrV f q c sp sc)) → Calls Try.prog 11 #[.agg (FrV f q c sp sc)] W fun e w' => e = .returned (.tuple #[.slice none 0 0, .int .i64 10]) ∧ Hid (St5 w w' w.heap.size b3 (FrV f q c sp sc)) := fun W b3 h => (Encode_any A _ W (HFA.out W h.out.bel)).mono (by
    rintro e w' ⟨hb, h2⟩
    rcases h2 with ⟨h2, h3, _⟩ | ⟨h2, h3, rfl⟩ | ⟨h2, rfl⟩
    · rw [HR.out] at h2; cases h2
    · rw [HR.out] at h2; cases h2
    · exact ⟨rfl, h.out.step hb⟩)
  have HRG : Hid (∀ W, Below w.heap.size w W → Calls Try.prog 12 #[.agg (FrV f q c sp sc)] W fun e u => e = .returned (.bool false) ∧ Below W.heap.size W u) := fun W h => by
    have := Right_any A _ W (HFA.out W h)
    rwa [HR.out] at this
  have HRR : Hid (∀ W, Below w.heap.size w W → Calls Try.prog 13 #[.agg (FrV f q c sp sc)] W fun e u => e = .returned (.bool false) ∧ Below W.heap.size W u) := fun W h => by
    have := rRight_any A _ W (HFA.out W h)
    rwa [HR.out] at this
  have HS5 : Hid (∀ W, St9 w W w.heap.size (FrV f q c sp sc) → St5 w (W.alloc (.cells (FrV f q c sp sc) 28)) w.heap.size W.heap.size (FrV f q c sp sc)) := fun W h => ⟨(h.step (bel_alloc (Nat.le_refl _) _)).bel, (h.step (bel_alloc (Nat.le_refl _) _)).box, heap_alloc_new W _⟩
  clear hA hs hr HEN HAA
  obtain ⟨k, cl, i, ls, t⟩ := f
  simp only [FrV] at HC9 HC10 HC11 HRG HRR HFA HS0 HS5 ⊢
  generalize ls.length = n3 at *
  generalize t.length = n4 at *
  go_enter Try.func3, Try.ntmps3
  go_wp2_with (first | (go_at_call 9; refine (HC9 _ HS0).mono ?_; rintro e w1 ⟨rfl, S1, d0, d1, d2, d3, d4⟩) | (go_at_call 10; with_reducible refine (HC10 _ S1).mono ?_; rintro e w2 ⟨rfl, S2, e0, e1, e2, e3, e4, g0, g1, g2, g3, g4⟩))
  have S3 : Hid (St5 w (w2.alloc (.cells #[.int .i64 k, .int .i64 cl, .int .i64 i, .slice q n3 c, .slice sp n4 sc] 28)) w.heap.size w2.heap.size #[.int .i64 k, .int .i64 cl, .int .i64 i, .slice q n3 c, .slice sp n4 sc]) := HS5.out w2 S2.out
  clear HC9 HC10 HS0 HS5 S1 S2 d0 d1 d2 d3 d4 e0 e1 e2 e3 e4 g0 g1 g2 g3 g4
  generalize w2.alloc (.cells #[.int .i64 k, .int .i64 cl, .int .i64 i, .slice q n3 c, .slice sp n4 sc] 28) = W3 at *
  generalize w2.heap.size = p3 at *
  refine (HC11 _ _ S3).mono ?_
  rintro e w4 ⟨rfl, S4⟩
  clear HC11 S3
  go_wp2_with fail
  obtain ⟨p1, HP1⟩ : ∃ p1, Hid (w.heap.size = p1) := ⟨_, rfl⟩
  obtain ⟨CA, HCA⟩ : ∃ CA : Array Value, Hid (#[.int .i64 k, .int .i64 cl, .int .i64 i, .slice q n3 c, .slice sp n4 sc] = CA) := ⟨_, rfl⟩
  have HBL : Hid (∀ w', Only [] w4 w' → Below w.heap.size w w') := fun w' ho => (S4.out.step (ho.below (Nat.le_refl _) (by simp))).bel
  have HR1 : Hid (∀ w', Only [] w4 w' → w'.heap[p1]? = some (.cells CA 25 (0, 0)) ∧ CA.size = 5) := by rw [← HP1.out, ← HCA.out]; exact fun w' ho => ⟨(S4.out.step (ho.below (Nat.le_refl _) (by simp))).box, rfl⟩
  have HR3 : Hid (∀ w', Only [] w4 w' → w'.heap[p3]? = some (.cells CA 28 (0, 0)) ∧ CA.size = 5) := by rw [← HCA.out]; exact fun w' ho => ⟨(S4.out.step (ho.below (Nat.le_refl _) (by simp))).box3, rfl⟩
  have HRP : Hid (∀ w', Only [] w4 w' → Calls Try.prog 12 #[.agg CA] w' fun e u => e = .returned (.bool false) ∧ Below w'.heap.size w' u) := by
    rw [← HCA.out]
    exact fun w' ho => HRG.out w' (HBL.out w' ho)
  have HRD : Hid (∀ w', Only [] w4 w' → Calls Try.prog 13 #[.agg CA] w' fun e u => e = .returned (.bool false) ∧ Below w'.heap.size w' u) := by
    rw [← HCA.out]
    exact fun w' ho => HRR.out w' (HBL.out w' ho)
  rw [HP1.out]
  have RB : ∀ k w w', Below w.heap.size w w' → (fun (_ : Nat) (_ : World) => True) k w → (fun (_ : Nat) (_ : World) => True) k w' := fun _ _ _ _ _ => trivial
  refine wp_region_st (en7 CA false) (fun u u' => Only [] u u') (SeqS [] (fun (_ : Nat) (_ : World) => True)) (by kernel_rfl) (only_drew _ _) (only_trans _) (en7_kept CA false) (by kernel_rfl) (SeqS.start (trivial)) ?_ ?_
  · intro i o a' w' f hi inv hS hfi hfw hpre
    have ho : Only [] w4 w' := inv.grow
    have hlt : i < 5 := (Array.getElem?_eq_some_iff.1 hi).1
    obtain rfl|rfl|rfl|rfl|rfl : i = 0 ∨ i = 1 ∨ i = 2 ∨ i = 3 ∨ i = 4 := by omega
    · obtain rfl := Option.some.inj hi
      have h0 : a'.tmps.getD 1 undef = (.pointer (some ⟨p1, 0, none⟩)) := by rw [inv.old 1 (notDst_spec (by kernel_rfl))]; rfl
      exact sq_value _ rfl rfl (load_run 25 1 p1 (0) _ rfl h0 (ld25 (HR1.out w' ho))) (Below.refl _ _) (by decide) hS RB rfl
    · obtain rfl := Option.some.inj hi
      have h0 : a'.tmps.getD 19 undef = _ := pre_of hpre 0 19 (by kernel_rfl) (by kernel_rfl)
      refine sq_quiet 12 #[a'.tmps.getD 19 undef] rfl rfl (by kernel_rfl) (by decide) hS ?_
      rw [h0]
      exact (HRP.out w' ho).mono (by rintro e u ⟨rfl, h2⟩; exact ⟨_, rfl, Only.of_below h2 _, (fun _ h => h), rfl⟩)
    · obtain rfl := Option.some.inj hi
      have h0 : a'.tmps.getD 3 undef = (.pointer (some ⟨p3, 0, none⟩)) := by rw [inv.old 3 (notDst_spec (by kernel_rfl))]; rfl
      exact sq_value _ rfl rfl (load_run 28 3 p3 (0) _ rfl h0 (ld28 (HR3.out w' ho))) (Below.refl _ _) (by decide) hS RB rfl
    · obtain rfl := Option.some.inj hi
      have h0 : a'.tmps.getD 21 undef = _ := pre_of hpre 2 21 (by kernel_rfl) (by kernel_rfl)
      refine sq_quiet 13 #[a'.tmps.getD 21 undef] rfl rfl (by kernel_rfl) (by decide) hS ?_
      rw [h0]
      exact (HRD.out w' ho).mono (by rintro e u ⟨rfl, h2⟩; exact ⟨_, rfl, Only.of_below h2 _, (fun _ h => h), rfl⟩)
    · obtain rfl := Option.some.inj hi
      have h0 : a'.tmps.getD 20 undef = _ := pre_of hpre 1 20 (by kernel_rfl) (by kernel_rfl)
      have h1 : a'.tmps.getD 22 undef = _ := pre_of hpre 3 22 (by kernel_rfl) (by kernel_rfl)
      exact sq_value _ rfl rfl (neqB_run 20 22 _ _ rfl h0 h1) (Below.refl _ _) (by decide) hS RB (by show Value.bool _ = _; simp)
  · intro a' w5 f inv hS hall hd
    have hk4 := hd 4 23 (by kernel_rfl)
    have ho : Only [] w4 w5 := inv.grow
    have hdf : a'.defers = [] := inv.defers
    have e := frame_of [19, 20, 21, 22, 23] inv.size (fun t ht => inv.old t (dstsIn_spec (ts := [19, 20, 21, 22, 23]) (by kernel_rfl) t ht))
    have hR := hS.done (fun c hc => hall c (show c < 5 by simp at hc <;> omega))
    clear inv hd hall hS
    obtain ⟨tmps, defers⟩ := a'
    obtain rfl : defers = [] := hdf
    replace e : tmps = List.foldl (fun G t => G.setIfInBounds t (tmps.getD t undef)) _ [19, 20, 21, 22, 23] := e
    simp only [List.foldl_cons, List.foldl_nil] at e
    replace hk4 : tmps.getD 23 undef = (.bool false) := hk4
    generalize tmps.getD 19 undef = x19 at *
    generalize tmps.getD 20 undef = x20 at *
    generalize tmps.getD 21 undef = x21 at *
    generalize tmps.getD 22 undef = x22 at *
    generalize tmps.getD 23 undef = x23 at *
    simp only [List.setIfInBounds_toArray, List.set_cons_succ, List.set_cons_zero] at e
    subst e
    subst hk4
    have e1 : w.heap.size = p1 := HP1.out
    subst e1
    have B5 : Below w4.heap.size w4 w5 := ho.below (Nat.le_refl _) (by simp)
    have S5 : Hid (St5 w w5 w.heap.size p3 #[.int .i64 k, .int .i64 cl, .int .i64 i, .slice q n3 c, .slice sp n4 sc]) := S4.out.step B5
    obtain ⟨u0, u1, u2, u3, u4⟩ := S5.out.cells3
    have HC13 : ∀ W, Hid (St5 w W w.heap.size p3 #[.int .i64 k, .int .i64 cl, .int .i64 i, .slice q n3 c, .slice sp n4 sc]) → Calls Try.prog 13 #[.agg #[.int .i64 k, .int .i64 cl, .int .i64 i, .slice q n3 c, .slice sp n4 sc]] W fun e u => e = .returned (.bool false) ∧ Hid (St5 w u w.heap.size p3 #[.int .i64 k, .int .i64 cl, .int .i64 i, .slice q n3 c, .slice sp n4 sc]) ∧ u.cell? ⟨p3, 0, none⟩ = some (.int .i64 k) ∧ u.cell? ⟨p3, 1, none⟩ = some (.int .i64 cl) ∧ u.cell? ⟨p3, 2, none⟩ = some (.int .i64 i) ∧ u.cell? ⟨p3, 3, none⟩ = some (.slice q n3 c) ∧ u.cell? ⟨p3, 4, none⟩ = some (.slice sp n4 sc) := fun W h => (HRR.out W h.out.bel).mono (by rintro e u ⟨rfl, hb⟩; obtain ⟨z0, z1, z2, z3, z4⟩ := (h.out.step hb).cells3; exact ⟨rfl, h.out.step hb, z0, z1, z2, z3, z4⟩)
    clear ho hR HBL HR1 HR3 HRP HRD HCA S4 B5
    go_wp2_with (first | (go_at_call 13; with_reducible refine (HC13 _ S5).mono ?_; rintro e w6 ⟨rfl, S6, g0, g1, g2, g3, g4⟩))
    go_ret
    exact ⟨rfl, S6.out.bel⟩
set_option maxHeartbeats 8000000 in
theorem enc_b (f : Fr) (v : Value) (w : World) (hf : FrIs w v f) (hs : small f = true) (hr : right f = true) (hl : 32768 < (bytes f).length) : Calls Try.prog 3 #[v] w fun e w' => e = .returned (.bool true) ∧ Below w.heap.size w w' := by
  have hA := hf
  obtain ⟨q, c, sp, sc, rfl, -⟩ := hf
  have HEN : Hid (∀ W, Below w.heap.size w W → FrIs W (.agg (FrV f q c sp sc)) f) := fun W h => hA.below h
  have HC9 : ∀ W, Hid (St9 w W w.heap.size (FrV f q c sp sc)) → Calls Try.prog 9 #[] W fun e w' => e = .returned (.bool true) ∧ Hid (St9 w w' w.heap.size (FrV f q c sp sc)) ∧ w'.cell? ⟨w.heap.size, 0, none⟩ = some (.int .i64 f.kind) ∧ w'.cell? ⟨w.heap.size, 1, none⟩ = some (.int .i64 f.coll) ∧ w'.cell? ⟨w.heap.size, 2, none⟩ = some (.int .i64 f.idx) ∧ w'.cell? ⟨w.heap.size, 3, none⟩ = some (.slice q f.links.length c) ∧ w'.cell? ⟨w.heap.size, 4, none⟩ = some (.slice sp f.sum.length sc) := fun W h => (anchor_any W).mono (by rintro e w' ⟨rfl, hb⟩; exact ⟨rfl, h.out.step hb, (h.out.step hb).cells⟩)
  have HC10 : ∀ W, Hid (St9 w W w.heap.size (FrV f q c sp sc)) → Calls Try.prog 10 #[.agg (FrV f q c sp sc)] W fun e w' => e = .returned (.bool (small f)) ∧ Hid (St9 w w' w.heap.size (FrV f q c sp sc)) ∧ w'.cell? ⟨w.heap.size, 0, none⟩ = some (.int .i64 f.kind) ∧ w'.cell? ⟨w.heap.size, 1, none⟩ = some (.int .i64 f.coll) ∧ w'.cell? ⟨w.heap.size, 2, none⟩ = some (.int .i64 f.idx) ∧ w'.cell? ⟨w.heap.size, 3, none⟩ = some (.slice q f.links.length c) ∧ w'.cell? ⟨w.heap.size, 4, none⟩ = some (.slice sp f.sum.length sc) ∧ (∀ o, (w'.alloc o).cell? ⟨w.heap.size, 0, none⟩ = some (.int .i64 f.kind)) ∧ (∀ o, (w'.alloc o).cell? ⟨w.heap.size, 1, none⟩ = some (.int .i64 f.coll)) ∧ (∀ o, (w'.alloc o).cell? ⟨w.heap.size, 2, none⟩ = some (.int .i64 f.idx)) ∧ (∀ o, (w'.alloc o).cell? ⟨w.heap.size, 3, none⟩ = some (.slice q f.links.length c)) ∧ (∀ o, (w'.alloc o).cell? ⟨w.heap.size, 4, none⟩ = some (.slice sp f.sum.length sc)) := fun W h => (small_any f _ W (HEN.out W h.out.bel)).mono (by
    rintro e w' ⟨rfl, hb⟩
    obtain ⟨z0, z1, z2, z3, z4⟩ := (h.out.step hb).cells
    have hal := fun o => ((h.out.step hb).step (bel_alloc (Nat.le_refl _) o)).cells
    exact ⟨rfl, h.out.step hb, z0, z1, z2, z3, z4, fun o => (hal o).1, fun o => (hal o).2.1, fun o => (hal o).2.2.1, fun o => (hal o).2.2.2.1, fun o => (hal o).2.2.2.2⟩)
  have HS0 : Hid (St9 w (w.alloc (.cells (FrV f q c sp sc) 25)) w.heap.size (FrV f q c sp sc)) := St9.start w _
  rw [hs] at HC10
  obtain ⟨A, HAA⟩ : ∃ A : Fr, Hid (f = A) := ⟨_, rfl⟩
  have HR : Hid (right A = true) := by have := hr; rw [HAA.out] at this; exact this
  have HFA : Hid (∀ W, Below w.heap.size w W → FrIs W (.agg (FrV f q c sp sc)) A) := fun W h => HAA.out ▸ hA.below h
  obtain ⟨bs, HBS0⟩ : ∃ bs, Hid (bytes A = bs) := ⟨_, rfl⟩
  obtain ⟨n, HN⟩ : ∃ n, Hid (bs.length = n) := ⟨_, rfl⟩
  have HLN : Hid (32768 < n ∧ n ≤ 40000) := by
    have h2 := (bytes_length hr).1
    have h3 := hl
    rw [HAA.out, HBS0.out, HN.out] at h2 h3
    exact ⟨h3, h2⟩
  have HSB : Hid (∀ x ∈ bs, x < 256) := by have := bytes_small hA.small; rw [HAA.out, HBS0.out] at this; exact this
  have HC11 : ∀ W b3, Hid (St5 w W w.heap.size b3 (FrV f q c sp sc)) → Calls Try.prog 11 #[.agg (FrV f q c sp sc)] W fun e w' => e = .returned (.tuple #[.slice none 0 0, .int .i64 11]) ∧ Hid (St5 w w' w.heap.size b3 (FrV f q c sp sc)) := fun W b3 h => (Encode_any A _ W (HFA.out W h.out.bel)).mono (by
    rintro e w' ⟨hb, h2⟩
    rcases h2 with ⟨h2, h3, _⟩ | ⟨h2, h3, rfl⟩ | ⟨h2, rfl⟩
    · rw [HBS0.out, HN.out] at h3; have := HLN.out.1; omega
    · exact ⟨rfl, h.out.step hb⟩
    · rw [HR.out] at h2; cases h2)
  have HRG : Hid (∀ W, Below w.heap.size w W → Calls Try.prog 12 #[.agg (FrV f q c sp sc)] W fun e u => e = .returned (.bool true) ∧ Below W.heap.size W u) := fun W h => by
    have := Right_any A _ W (HFA.out W h)
    rwa [HR.out] at this
  have HRR : Hid (∀ W, Below w.heap.size w W → Calls Try.prog 13 #[.agg (FrV f q c sp sc)] W fun e u => e = .returned (.bool true) ∧ Below W.heap.size W u) := fun W h => by
    have := rRight_any A _ W (HFA.out W h)
    rwa [HR.out] at this
  have HRY : Hid (∀ W, Below w.heap.size w W → Calls Try.prog 14 #[.agg (FrV f q c sp sc)] W fun e u => ∃ q1 c1, e = .returned (.slice q1 n c1) ∧ Src u (.slice q1 n c1) bs ∧ Below W.heap.size W u) := fun W h => (rBytes_any A _ W (HFA.out W h) HR.out).mono (by
    rintro e u ⟨v, rfl, ho, hb⟩
    obtain ⟨q1, c1, rfl⟩ := own_slice ho
    rw [HBS0.out, HN.out] at ho
    exact ⟨q1, c1, by rw [HBS0.out, HN.out], Src.own HSB.out ho, hb⟩)
  have HS5 : Hid (∀ W, St9 w W w.heap.size (FrV f q c sp sc) → St5 w (W.alloc (.cells (FrV f q c sp sc) 28)) w.heap.size W.heap.size (FrV f q c sp sc)) := fun W h => ⟨(h.step (bel_alloc (Nat.le_refl _) _)).bel, (h.step (bel_alloc (Nat.le_refl _) _)).box, heap_alloc_new W _⟩
  clear hA hs hr HEN HAA hl
  obtain ⟨k, cl, i, ls, t⟩ := f
  simp only [FrV] at HC9 HC10 HC11 HRG HRR HFA HRY HS0 HS5 ⊢
  generalize ls.length = n3 at *
  generalize t.length = n4 at *
  have hn1 : (32768 : Int) < (n : Int) := by have := HLN.out; omega
  have hn2 : (n : Int) ≤ 40000 := by have := HLN.out; omega
  go_enter Try.func3, Try.ntmps3
  go_wp2_with (first | (go_at_call 9; refine (HC9 _ HS0).mono ?_; rintro e w1 ⟨rfl, S1, d0, d1, d2, d3, d4⟩) | (go_at_call 10; with_reducible refine (HC10 _ S1).mono ?_; rintro e w2 ⟨rfl, S2, e0, e1, e2, e3, e4, g0, g1, g2, g3, g4⟩))
  have S3 : Hid (St5 w (w2.alloc (.cells #[.int .i64 k, .int .i64 cl, .int .i64 i, .slice q n3 c, .slice sp n4 sc] 28)) w.heap.size w2.heap.size #[.int .i64 k, .int .i64 cl, .int .i64 i, .slice q n3 c, .slice sp n4 sc]) := HS5.out w2 S2.out
  clear HC9 HC10 HS0 HS5 S1 S2 d0 d1 d2 d3 d4 e0 e1 e2 e3 e4 g0 g1 g2 g3 g4
  generalize w2.alloc (.cells #[.int .i64 k, .int .i64 cl, .int .i64 i, .slice q n3 c, .slice sp n4 sc] 28) = W3 at *
  generalize w2.heap.size = p3 at *
  refine (HC11 _ _ S3).mono ?_
  rintro e w4 ⟨rfl, S4⟩
  clear HC11 S3
  go_wp2_with fail
  obtain ⟨p1, HP1⟩ : ∃ p1, Hid (w.heap.size = p1) := ⟨_, rfl⟩
  obtain ⟨CA, HCA⟩ : ∃ CA : Array Value, Hid (#[.int .i64 k, .int .i64 cl, .int .i64 i, .slice q n3 c, .slice sp n4 sc] = CA) := ⟨_, rfl⟩
  have HBL : Hid (∀ w', Only [] w4 w' → Below w.heap.size w w') := fun w' ho => (S4.out.step (ho.below (Nat.le_refl _) (by simp))).bel
  have HR1 : Hid (∀ w', Only [] w4 w' → w'.heap[p1]? = some (.cells CA 25 (0, 0)) ∧ CA.size = 5) := by rw [← HP1.out, ← HCA.out]; exact fun w' ho => ⟨(S4.out.step (ho.below (Nat.le_refl _) (by simp))).box, rfl⟩
  have HR3 : Hid (∀ w', Only [] w4 w' → w'.heap[p3]? = some (.cells CA 28 (0, 0)) ∧ CA.size = 5) := by rw [← HCA.out]; exact fun w' ho => ⟨(S4.out.step (ho.below (Nat.le_refl _) (by simp))).box3, rfl⟩
  have HRP : Hid (∀ w', Only [] w4 w' → Calls Try.prog 12 #[.agg CA] w' fun e u => e = .returned (.bool true) ∧ Below w'.heap.size w' u) := by
    rw [← HCA.out]
    exact fun w' ho => HRG.out w' (HBL.out w' ho)
  have HRD : Hid (∀ w', Only [] w4 w' → Calls Try.prog 13 #[.agg CA] w' fun e u => e = .returned (.bool true) ∧ Below w'.heap.size w' u) := by
    rw [← HCA.out]
    exact fun w' ho => HRR.out w' (HBL.out w' ho)
  rw [HP1.out]
  have RB : ∀ k w w', Below w.heap.size w w' → (fun (_ : Nat) (_ : World) => True) k w → (fun (_ : Nat) (_ : World) => True) k w' := fun _ _ _ _ _ => trivial
  refine wp_region_st (en7 CA true) (fun u u' => Only [] u u') (SeqS [] (fun (_ : Nat) (_ : World) => True)) (by kernel_rfl) (only_drew _ _) (only_trans _) (en7_kept CA true) (by kernel_rfl) (SeqS.start (trivial)) ?_ ?_
  · intro i o a' w' f hi inv hS hfi hfw hpre
    have ho : Only [] w4 w' := inv.grow
    have hlt : i < 5 := (Array.getElem?_eq_some_iff.1 hi).1
    obtain rfl|rfl|rfl|rfl|rfl : i = 0 ∨ i = 1 ∨ i = 2 ∨ i = 3 ∨ i = 4 := by omega
    · obtain rfl := Option.some.inj hi
      have h0 : a'.tmps.getD 1 undef = (.pointer (some ⟨p1, 0, none⟩)) := by rw [inv.old 1 (notDst_spec (by kernel_rfl))]; rfl
      exact sq_value _ rfl rfl (load_run 25 1 p1 (0) _ rfl h0 (ld25 (HR1.out w' ho))) (Below.refl _ _) (by decide) hS RB rfl
    · obtain rfl := Option.some.inj hi
      have h0 : a'.tmps.getD 19 undef = _ := pre_of hpre 0 19 (by kernel_rfl) (by kernel_rfl)
      refine sq_quiet 12 #[a'.tmps.getD 19 undef] rfl rfl (by kernel_rfl) (by decide) hS ?_
      rw [h0]
      exact (HRP.out w' ho).mono (by rintro e u ⟨rfl, h2⟩; exact ⟨_, rfl, Only.of_below h2 _, (fun _ h => h), rfl⟩)
    · obtain rfl := Option.some.inj hi
      have h0 : a'.tmps.getD 3 undef = (.pointer (some ⟨p3, 0, none⟩)) := by rw [inv.old 3 (notDst_spec (by kernel_rfl))]; rfl
      exact sq_value _ rfl rfl (load_run 28 3 p3 (0) _ rfl h0 (ld28 (HR3.out w' ho))) (Below.refl _ _) (by decide) hS RB rfl
    · obtain rfl := Option.some.inj hi
      have h0 : a'.tmps.getD 21 undef = _ := pre_of hpre 2 21 (by kernel_rfl) (by kernel_rfl)
      refine sq_quiet 13 #[a'.tmps.getD 21 undef] rfl rfl (by kernel_rfl) (by decide) hS ?_
      rw [h0]
      exact (HRD.out w' ho).mono (by rintro e u ⟨rfl, h2⟩; exact ⟨_, rfl, Only.of_below h2 _, (fun _ h => h), rfl⟩)
    · obtain rfl := Option.some.inj hi
      have h0 : a'.tmps.getD 20 undef = _ := pre_of hpre 1 20 (by kernel_rfl) (by kernel_rfl)
      have h1 : a'.tmps.getD 22 undef = _ := pre_of hpre 3 22 (by kernel_rfl) (by kernel_rfl)
      exact sq_value _ rfl rfl (neqB_run 20 22 _ _ rfl h0 h1) (Below.refl _ _) (by decide) hS RB (by show Value.bool _ = _; simp)
  · intro a' w5 f inv hS hall hd
    have hk4 := hd 4 23 (by kernel_rfl)
    have ho : Only [] w4 w5 := inv.grow
    have hdf : a'.defers = [] := inv.defers
    have e := frame_of [19, 20, 21, 22, 23] inv.size (fun t ht => inv.old t (dstsIn_spec (ts := [19, 20, 21, 22, 23]) (by kernel_rfl) t ht))
    have hR := hS.done (fun c hc => hall c (show c < 5 by simp at hc <;> omega))
    clear inv hd hall hS
    obtain ⟨tmps, defers⟩ := a'
    obtain rfl : defers = [] := hdf
    replace e : tmps = List.foldl (fun G t => G.setIfInBounds t (tmps.getD t undef)) _ [19, 20, 21, 22, 23] := e
    simp only [List.foldl_cons, List.foldl_nil] at e
    replace hk4 : tmps.getD 23 undef = (.bool false) := hk4
    generalize tmps.getD 19 undef = x19 at *
    generalize tmps.getD 20 undef = x20 at *
    generalize tmps.getD 21 undef = x21 at *
    generalize tmps.getD 22 undef = x22 at *
    generalize tmps.getD 23 undef = x23 at *
    simp only [List.setIfInBounds_toArray, List.set_cons_succ, List.set_cons_zero] at e
    subst e
    subst hk4
    have e1 : w.heap.size = p1 := HP1.out
    subst e1
    have B5 : Below w4.heap.size w4 w5 := ho.below (Nat.le_refl _) (by simp)
    have S5 : Hid (St5 w w5 w.heap.size p3 #[.int .i64 k, .int .i64 cl, .int .i64 i, .slice q n3 c, .slice sp n4 sc]) := S4.out.step B5
    obtain ⟨u0, u1, u2, u3, u4⟩ := S5.out.cells3
    have HC13 : ∀ W, Hid (St5 w W w.heap.size p3 #[.int .i64 k, .int .i64 cl, .int .i64 i, .slice q n3 c, .slice sp n4 sc]) → Calls Try.prog 13 #[.agg #[.int .i64 k, .int .i64 cl, .int .i64 i, .slice q n3 c, .slice sp n4 sc]] W fun e u => e = .returned (.bool true) ∧ Hid (St5 w u w.heap.size p3 #[.int .i64 k, .int .i64 cl, .int .i64 i, .slice q n3 c, .slice sp n4 sc]) ∧ u.cell? ⟨p3, 0, none⟩ = some (.int .i64 k) ∧ u.cell? ⟨p3, 1, none⟩ = some (.int .i64 cl) ∧ u.cell? ⟨p3, 2, none⟩ = some (.int .i64 i) ∧ u.cell? ⟨p3, 3, none⟩ = some (.slice q n3 c) ∧ u.cell? ⟨p3, 4, none⟩ = some (.slice sp n4 sc) := fun W h => (HRR.out W h.out.bel).mono (by rintro e u ⟨rfl, hb⟩; obtain ⟨z0, z1, z2, z3, z4⟩ := (h.out.step hb).cells3; exact ⟨rfl, h.out.step hb, z0, z1, z2, z3, z4⟩)
    clear ho hR HBL HR1 HR3 HRP HRD HCA S4 B5
    go_wp2_with (first | (go_at_call 13; with_reducible refine (HC13 _ S5).mono ?_; rintro e w6 ⟨rfl, S6, g0, g1, g2, g3, g4⟩))
    refine (HRY.out _ S6.out.bel).mono ?_
    rintro e w7 ⟨q7, c7, rfl, _, B7⟩
    have B8 : Hid (Below w.heap.size w w7) := (S6.out.step B7).bel
    clear B7
    go_wp2_with fail
    go_ret
    exact ⟨rfl, B8.out⟩
set_option maxHeartbeats 8000000 in
theorem enc_t (f : Fr) (v : Value) (w : World) (hf : FrIs w v f) (hs : small f = true) (hr : right f = true) (hl : (bytes f).length ≤ 32768) : Calls Try.prog 3 #[v] w fun e w' => e = .returned (.bool true) ∧ Below w.heap.size w w' := by
  have hA := hf
  obtain ⟨q, c, sp, sc, rfl, -⟩ := hf
  have HEN : Hid (∀ W, Below w.heap.size w W → FrIs W (.agg (FrV f q c sp sc)) f) := fun W h => hA.below h
  have HC9 : ∀ W, Hid (St9 w W w.heap.size (FrV f q c sp sc)) → Calls Try.prog 9 #[] W fun e w' => e = .returned (.bool true) ∧ Hid (St9 w w' w.heap.size (FrV f q c sp sc)) ∧ w'.cell? ⟨w.heap.size, 0, none⟩ = some (.int .i64 f.kind) ∧ w'.cell? ⟨w.heap.size, 1, none⟩ = some (.int .i64 f.coll) ∧ w'.cell? ⟨w.heap.size, 2, none⟩ = some (.int .i64 f.idx) ∧ w'.cell? ⟨w.heap.size, 3, none⟩ = some (.slice q f.links.length c) ∧ w'.cell? ⟨w.heap.size, 4, none⟩ = some (.slice sp f.sum.length sc) := fun W h => (anchor_any W).mono (by rintro e w' ⟨rfl, hb⟩; exact ⟨rfl, h.out.step hb, (h.out.step hb).cells⟩)
  have HC10 : ∀ W, Hid (St9 w W w.heap.size (FrV f q c sp sc)) → Calls Try.prog 10 #[.agg (FrV f q c sp sc)] W fun e w' => e = .returned (.bool (small f)) ∧ Hid (St9 w w' w.heap.size (FrV f q c sp sc)) ∧ w'.cell? ⟨w.heap.size, 0, none⟩ = some (.int .i64 f.kind) ∧ w'.cell? ⟨w.heap.size, 1, none⟩ = some (.int .i64 f.coll) ∧ w'.cell? ⟨w.heap.size, 2, none⟩ = some (.int .i64 f.idx) ∧ w'.cell? ⟨w.heap.size, 3, none⟩ = some (.slice q f.links.length c) ∧ w'.cell? ⟨w.heap.size, 4, none⟩ = some (.slice sp f.sum.length sc) ∧ (∀ o, (w'.alloc o).cell? ⟨w.heap.size, 0, none⟩ = some (.int .i64 f.kind)) ∧ (∀ o, (w'.alloc o).cell? ⟨w.heap.size, 1, none⟩ = some (.int .i64 f.coll)) ∧ (∀ o, (w'.alloc o).cell? ⟨w.heap.size, 2, none⟩ = some (.int .i64 f.idx)) ∧ (∀ o, (w'.alloc o).cell? ⟨w.heap.size, 3, none⟩ = some (.slice q f.links.length c)) ∧ (∀ o, (w'.alloc o).cell? ⟨w.heap.size, 4, none⟩ = some (.slice sp f.sum.length sc)) := fun W h => (small_any f _ W (HEN.out W h.out.bel)).mono (by
    rintro e w' ⟨rfl, hb⟩
    obtain ⟨z0, z1, z2, z3, z4⟩ := (h.out.step hb).cells
    have hal := fun o => ((h.out.step hb).step (bel_alloc (Nat.le_refl _) o)).cells
    exact ⟨rfl, h.out.step hb, z0, z1, z2, z3, z4, fun o => (hal o).1, fun o => (hal o).2.1, fun o => (hal o).2.2.1, fun o => (hal o).2.2.2.1, fun o => (hal o).2.2.2.2⟩)
  have HS0 : Hid (St9 w (w.alloc (.cells (FrV f q c sp sc) 25)) w.heap.size (FrV f q c sp sc)) := St9.start w _
  rw [hs] at HC10
  obtain ⟨A, HAA⟩ : ∃ A : Fr, Hid (f = A) := ⟨_, rfl⟩
  have HR : Hid (right A = true) := by have := hr; rw [HAA.out] at this; exact this
  have HFA : Hid (∀ W, Below w.heap.size w W → FrIs W (.agg (FrV f q c sp sc)) A) := fun W h => HAA.out ▸ hA.below h
  obtain ⟨bs, HBS0⟩ : ∃ bs, Hid (bytes A = bs) := ⟨_, rfl⟩
  obtain ⟨n, HN⟩ : ∃ n, Hid (bs.length = n) := ⟨_, rfl⟩
  have HLN : Hid (n ≤ 32768 ∧ n ≤ 40000) := by
    have h2 := (bytes_length hr).1
    have h3 := hl
    rw [HAA.out, HBS0.out, HN.out] at h2 h3
    exact ⟨h3, h2⟩
  have HSB : Hid (∀ x ∈ bs, x < 256) := by have := bytes_small hA.small; rw [HAA.out, HBS0.out] at this; exact this
  have HC11 : ∀ W b3, Hid (St5 w W w.heap.size b3 (FrV f q c sp sc)) → Calls Try.prog 11 #[.agg (FrV f q c sp sc)] W fun e w' => ∃ q1 c1, e = .returned (.tuple #[.slice q1 n c1, .int .i64 0]) ∧ Hid (Src w' (.slice q1 n c1) bs) ∧ Hid (St5 w w' w.heap.size b3 (FrV f q c sp sc)) := fun W b3 h => (Encode_any A _ W (HFA.out W h.out.bel)).mono (by
    rintro e w' ⟨hb, ⟨_, _, v, rfl, ho⟩ | ⟨_, h2, _⟩ | ⟨h2, _⟩⟩
    · obtain ⟨q1, c1, rfl⟩ := own_slice ho
      rw [HBS0.out, HN.out] at ho
      have ho' := Src.own HSB.out ho
      exact ⟨q1, c1, by rw [HBS0.out, HN.out], ho', h.out.step hb⟩
    · rw [HBS0.out, HN.out] at h2; have := HLN.out.1; omega
    · rw [HR.out] at h2; cases h2)
  have HRG : Hid (∀ W, Below w.heap.size w W → Calls Try.prog 12 #[.agg (FrV f q c sp sc)] W fun e u => e = .returned (.bool true) ∧ Below W.heap.size W u) := fun W h => by
    have := Right_any A _ W (HFA.out W h)
    rwa [HR.out] at this
  have HRR : Hid (∀ W, Below w.heap.size w W → Calls Try.prog 13 #[.agg (FrV f q c sp sc)] W fun e u => e = .returned (.bool true) ∧ Below W.heap.size W u) := fun W h => by
    have := rRight_any A _ W (HFA.out W h)
    rwa [HR.out] at this
  have HRY : Hid (∀ W, Below w.heap.size w W → Calls Try.prog 14 #[.agg (FrV f q c sp sc)] W fun e u => ∃ q1 c1, e = .returned (.slice q1 n c1) ∧ Src u (.slice q1 n c1) bs ∧ Below W.heap.size W u) := fun W h => (rBytes_any A _ W (HFA.out W h) HR.out).mono (by
    rintro e u ⟨v, rfl, ho, hb⟩
    obtain ⟨q1, c1, rfl⟩ := own_slice ho
    rw [HBS0.out, HN.out] at ho
    exact ⟨q1, c1, by rw [HBS0.out, HN.out], Src.own HSB.out ho, hb⟩)
  have HC15 : Hid (∀ W q1 c1, Src W (.slice q1 n c1) bs → Calls Try.prog 15 #[.slice q1 n c1] W fun e w' => ∃ xq xc yq yc, e = .returned (.tuple #[.agg (FrV f xq xc yq yc), .int .i64 0]) ∧ FrIs w' (.agg (FrV f xq xc yq yc)) A ∧ Below W.heap.size W w') := fun W q1 c1 hq => by
    refine (Decode_any _ _ W hq).mono ?_
    rintro e w' ⟨hb, ⟨h2, _⟩ | ⟨_, ⟨F, v, hd, rfl, hn⟩ | ⟨hd, _⟩⟩⟩
    · rw [HN.out] at h2; have := HLN.out.1; omega
    · rw [← HBS0.out, dec_own HR.out] at hd
      obtain rfl := Option.some.inj hd
      have hn' := hn.is
      obtain ⟨xq, xc, yq, yc, rfl, -⟩ := hn'
      exact ⟨xq, xc, yq, yc, by rw [HAA.out], by rw [HAA.out]; exact hn.is, hb⟩
    · rw [← HBS0.out, dec_own HR.out] at hd; cases hd
  have HS5 : Hid (∀ W, St9 w W w.heap.size (FrV f q c sp sc) → St5 w (W.alloc (.cells (FrV f q c sp sc) 28)) w.heap.size W.heap.size (FrV f q c sp sc)) := fun W h => ⟨(h.step (bel_alloc (Nat.le_refl _) _)).bel, (h.step (bel_alloc (Nat.le_refl _) _)).box, heap_alloc_new W _⟩
  clear hA hs hr HEN HAA hl
  obtain ⟨k, cl, i, ls, t⟩ := f
  simp only [FrV] at HC9 HC10 HC11 HRG HRR HFA HRY HC15 HS0 HS5 ⊢
  generalize ls.length = n3 at *
  generalize t.length = n4 at *
  have hn1 : ¬ (32768 : Int) < (n : Int) := by have := HLN.out; omega
  have hn2 : (n : Int) ≤ 40000 := by have := HLN.out; omega
  go_enter Try.func3, Try.ntmps3
  go_wp2_with (first | (go_at_call 9; refine (HC9 _ HS0).mono ?_; rintro e w1 ⟨rfl, S1, d0, d1, d2, d3, d4⟩) | (go_at_call 10; with_reducible refine (HC10 _ S1).mono ?_; rintro e w2 ⟨rfl, S2, e0, e1, e2, e3, e4, g0, g1, g2, g3, g4⟩))
  have S3 : Hid (St5 w (w2.alloc (.cells #[.int .i64 k, .int .i64 cl, .int .i64 i, .slice q n3 c, .slice sp n4 sc] 28)) w.heap.size w2.heap.size #[.int .i64 k, .int .i64 cl, .int .i64 i, .slice q n3 c, .slice sp n4 sc]) := HS5.out w2 S2.out
  clear HC9 HC10 HS0 HS5 S1 S2 d0 d1 d2 d3 d4 e0 e1 e2 e3 e4 g0 g1 g2 g3 g4
  generalize w2.alloc (.cells #[.int .i64 k, .int .i64 cl, .int .i64 i, .slice q n3 c, .slice sp n4 sc] 28) = W3 at *
  generalize w2.heap.size = p3 at *
  refine (HC11 _ _ S3).mono ?_
  rintro e w4 ⟨q1, c1, rfl, E4, S4⟩
  clear HC11 S3
  go_wp2_with fail
  obtain ⟨p1, HP1⟩ : ∃ p1, Hid (w.heap.size = p1) := ⟨_, rfl⟩
  obtain ⟨CA, HCA⟩ : ∃ CA : Array Value, Hid (#[.int .i64 k, .int .i64 cl, .int .i64 i, .slice q n3 c, .slice sp n4 sc] = CA) := ⟨_, rfl⟩
  have HBL : Hid (∀ w', Only [] w4 w' → Below w.heap.size w w') := fun w' ho => (S4.out.step (ho.below (Nat.le_refl _) (by simp))).bel
  have HR1 : Hid (∀ w', Only [] w4 w' → w'.heap[p1]? = some (.cells CA 25 (0, 0)) ∧ CA.size = 5) := by rw [← HP1.out, ← HCA.out]; exact fun w' ho => ⟨(S4.out.step (ho.below (Nat.le_refl _) (by simp))).box, rfl⟩
  have HR3 : Hid (∀ w', Only [] w4 w' → w'.heap[p3]? = some (.cells CA 28 (0, 0)) ∧ CA.size = 5) := by rw [← HCA.out]; exact fun w' ho => ⟨(S4.out.step (ho.below (Nat.le_refl _) (by simp))).box3, rfl⟩
  have HRP : Hid (∀ w', Only [] w4 w' → Calls Try.prog 12 #[.agg CA] w' fun e u => e = .returned (.bool true) ∧ Below w'.heap.size w' u) := by
    rw [← HCA.out]
    exact fun w' ho => HRG.out w' (HBL.out w' ho)
  have HRD : Hid (∀ w', Only [] w4 w' → Calls Try.prog 13 #[.agg CA] w' fun e u => e = .returned (.bool true) ∧ Below w'.heap.size w' u) := by
    rw [← HCA.out]
    exact fun w' ho => HRR.out w' (HBL.out w' ho)
  rw [HP1.out]
  have RB : ∀ k w w', Below w.heap.size w w' → (fun (_ : Nat) (_ : World) => True) k w → (fun (_ : Nat) (_ : World) => True) k w' := fun _ _ _ _ _ => trivial
  refine wp_region_st (en7 CA true) (fun u u' => Only [] u u') (SeqS [] (fun (_ : Nat) (_ : World) => True)) (by kernel_rfl) (only_drew _ _) (only_trans _) (en7_kept CA true) (by kernel_rfl) (SeqS.start (trivial)) ?_ ?_
  · intro i o a' w' f hi inv hS hfi hfw hpre
    have ho : Only [] w4 w' := inv.grow
    have hlt : i < 5 := (Array.getElem?_eq_some_iff.1 hi).1
    obtain rfl|rfl|rfl|rfl|rfl : i = 0 ∨ i = 1 ∨ i = 2 ∨ i = 3 ∨ i = 4 := by omega
    · obtain rfl := Option.some.inj hi
      have h0 : a'.tmps.getD 1 undef = (.pointer (some ⟨p1, 0, none⟩)) := by rw [inv.old 1 (notDst_spec (by kernel_rfl))]; rfl
      exact sq_value _ rfl rfl (load_run 25 1 p1 (0) _ rfl h0 (ld25 (HR1.out w' ho))) (Below.refl _ _) (by decide) hS RB rfl
    · obtain rfl := Option.some.inj hi
      have h0 : a'.tmps.getD 19 undef = _ := pre_of hpre 0 19 (by kernel_rfl) (by kernel_rfl)
      refine sq_quiet 12 #[a'.tmps.getD 19 undef] rfl rfl (by kernel_rfl) (by decide) hS ?_
      rw [h0]
      exact (HRP.out w' ho).mono (by rintro e u ⟨rfl, h2⟩; exact ⟨_, rfl, Only.of_below h2 _, (fun _ h => h), rfl⟩)
    · obtain rfl := Option.some.inj hi
      have h0 : a'.tmps.getD 3 undef = (.pointer (some ⟨p3, 0, none⟩)) := by rw [inv.old 3 (notDst_spec (by kernel_rfl))]; rfl
      exact sq_value _ rfl rfl (load_run 28 3 p3 (0) _ rfl h0 (ld28 (HR3.out w' ho))) (Below.refl _ _) (by decide) hS RB rfl
    · obtain rfl := Option.some.inj hi
      have h0 : a'.tmps.getD 21 undef = _ := pre_of hpre 2 21 (by kernel_rfl) (by kernel_rfl)
      refine sq_quiet 13 #[a'.tmps.getD 21 undef] rfl rfl (by kernel_rfl) (by decide) hS ?_
      rw [h0]
      exact (HRD.out w' ho).mono (by rintro e u ⟨rfl, h2⟩; exact ⟨_, rfl, Only.of_below h2 _, (fun _ h => h), rfl⟩)
    · obtain rfl := Option.some.inj hi
      have h0 : a'.tmps.getD 20 undef = _ := pre_of hpre 1 20 (by kernel_rfl) (by kernel_rfl)
      have h1 : a'.tmps.getD 22 undef = _ := pre_of hpre 3 22 (by kernel_rfl) (by kernel_rfl)
      exact sq_value _ rfl rfl (neqB_run 20 22 _ _ rfl h0 h1) (Below.refl _ _) (by decide) hS RB (by show Value.bool _ = _; simp)
  · intro a' w5 f inv hS hall hd
    have hk4 := hd 4 23 (by kernel_rfl)
    have ho : Only [] w4 w5 := inv.grow
    have hdf : a'.defers = [] := inv.defers
    have e := frame_of [19, 20, 21, 22, 23] inv.size (fun t ht => inv.old t (dstsIn_spec (ts := [19, 20, 21, 22, 23]) (by kernel_rfl) t ht))
    have hR := hS.done (fun c hc => hall c (show c < 5 by simp at hc <;> omega))
    clear inv hd hall hS
    obtain ⟨tmps, defers⟩ := a'
    obtain rfl : defers = [] := hdf
    replace e : tmps = List.foldl (fun G t => G.setIfInBounds t (tmps.getD t undef)) _ [19, 20, 21, 22, 23] := e
    simp only [List.foldl_cons, List.foldl_nil] at e
    replace hk4 : tmps.getD 23 undef = (.bool false) := hk4
    generalize tmps.getD 19 undef = x19 at *
    generalize tmps.getD 20 undef = x20 at *
    generalize tmps.getD 21 undef = x21 at *
    generalize tmps.getD 22 undef = x22 at *
    generalize tmps.getD 23 undef = x23 at *
    simp only [List.setIfInBounds_toArray, List.set_cons_succ, List.set_cons_zero] at e
    subst e
    subst hk4
    have e1 : w.heap.size = p1 := HP1.out
    subst e1
    have B5 : Below w4.heap.size w4 w5 := ho.below (Nat.le_refl _) (by simp)
    have S5 : Hid (St5 w w5 w.heap.size p3 #[.int .i64 k, .int .i64 cl, .int .i64 i, .slice q n3 c, .slice sp n4 sc]) := S4.out.step B5
    obtain ⟨u0, u1, u2, u3, u4⟩ := S5.out.cells3
    have HC13 : ∀ W, Hid (St5 w W w.heap.size p3 #[.int .i64 k, .int .i64 cl, .int .i64 i, .slice q n3 c, .slice sp n4 sc]) → Calls Try.prog 13 #[.agg #[.int .i64 k, .int .i64 cl, .int .i64 i, .slice q n3 c, .slice sp n4 sc]] W fun e u => e = .returned (.bool true) ∧ Hid (St5 w u w.heap.size p3 #[.int .i64 k, .int .i64 cl, .int .i64 i, .slice q n3 c, .slice sp n4 sc]) ∧ u.cell? ⟨p3, 0, none⟩ = some (.int .i64 k) ∧ u.cell? ⟨p3, 1, none⟩ = some (.int .i64 cl) ∧ u.cell? ⟨p3, 2, none⟩ = some (.int .i64 i) ∧ u.cell? ⟨p3, 3, none⟩ = some (.slice q n3 c) ∧ u.cell? ⟨p3, 4, none⟩ = some (.slice sp n4 sc) ∧ Hid (Below W.heap.size W u) := fun W h => (HRR.out W h.out.bel).mono (by rintro e u ⟨rfl, hb⟩; obtain ⟨z0, z1, z2, z3, z4⟩ := (h.out.step hb).cells3; exact ⟨rfl, h.out.step hb, z0, z1, z2, z3, z4, hb⟩)
    have E5 : Hid (Src w5 (.slice q1 n c1) bs) := E4.out.below B5
    clear ho hR HBL HR1 HR3 HRP HRD HCA S4 B5 E4
    go_wp2_with (first | (go_at_call 13; with_reducible refine (HC13 _ S5).mono ?_; rintro e w6 ⟨rfl, S6, g0, g1, g2, g3, g4, B6⟩))
    have E6 : Hid (Src w6 (.slice q1 n c1) bs) := E5.out.below B6.out
    refine (HRY.out _ S6.out.bel).mono ?_
    rintro e w7 ⟨q7, c7, rfl, _, B7⟩
    have S7 : Hid (St5 w w7 w.heap.size p3 #[.int .i64 k, .int .i64 cl, .int .i64 i, .slice q n3 c, .slice sp n4 sc]) := S6.out.step B7
    have E7 : Hid (Src w7 (.slice q1 n c1) bs) := E6.out.below B7
    clear B7 B6 S5 S6 E5 E6 HC13 u0 u1 u2 u3 u4 g0 g1 g2 g3 g4
    go_wp2_with fail
    refine (HC15.out _ _ _ E7.out).mono ?_
    rintro e w8 ⟨xq, xc, yq, yc, rfl, F8, B8⟩
    have hal : Below w8.heap.size w8 (w8.alloc (.cells #[.int .i64 k, .int .i64 cl, .int .i64 i, .slice xq n3 xc, .slice yq n4 yc] 25)) := bel_alloc (Nat.le_refl _) _
    have G8 : Hid (St5 w (w8.alloc (.cells #[.int .i64 k, .int .i64 cl, .int .i64 i, .slice xq n3 xc, .slice yq n4 yc] 25)) w.heap.size p3 #[.int .i64 k, .int .i64 cl, .int .i64 i, .slice q n3 c, .slice sp n4 sc] ∧ (w8.alloc (.cells #[.int .i64 k, .int .i64 cl, .int .i64 i, .slice xq n3 xc, .slice yq n4 yc] 25)).heap[w8.heap.size]? = some (.cells #[.int .i64 k, .int .i64 cl, .int .i64 i, .slice xq n3 xc, .slice yq n4 yc] 25 (0, 0)) ∧ FrIs (w8.alloc (.cells #[.int .i64 k, .int .i64 cl, .int .i64 i, .slice xq n3 xc, .slice yq n4 yc] 25)) (.agg #[.int .i64 k, .int .i64 cl, .int .i64 i, .slice xq n3 xc, .slice yq n4 yc]) A ∧ Src (w8.alloc (.cells #[.int .i64 k, .int .i64 cl, .int .i64 i, .slice xq n3 xc, .slice yq n4 yc] 25)) (.slice q1 n c1) bs) := ⟨(S7.out.step B8).step hal, heap_alloc_new w8 _, F8.below hal, (E7.out.below B8).below hal⟩
    clear HC15 hal F8 B8 S7 E7
    go_wp2_with fail
    generalize w8.alloc (.cells #[.int .i64 k, .int .i64 cl, .int .i64 i, .slice xq n3 xc, .slice yq n4 yc] 25) = W8 at *
    generalize w8.heap.size = p6 at *
    obtain ⟨CA, HCA⟩ : ∃ CA : Array Value, Hid (#[.int .i64 k, .int .i64 cl, .int .i64 i, .slice q n3 c, .slice sp n4 sc] = CA) := ⟨_, rfl⟩
    obtain ⟨CC, HCC⟩ : ∃ CC : Array Value, Hid (#[.int .i64 k, .int .i64 cl, .int .i64 i, .slice xq n3 xc, .slice yq n4 yc] = CC) := ⟨_, rfl⟩
    have HBL : Hid (∀ w', Only [] W8 w' → Below W8.heap.size W8 w') := fun w' ho => ho.below (Nat.le_refl _) (by simp)
    have HR3 : Hid (∀ w', Only [] W8 w' → w'.heap[p3]? = some (.cells CA 28 (0, 0)) ∧ CA.size = 5) := by rw [← HCA.out]; exact fun w' ho => ⟨(G8.out.1.step (HBL.out w' ho)).box3, rfl⟩
    have HR6 : Hid (∀ w', Only [] W8 w' → w'.heap[p6]? = some (.cells CC 25 (0, 0)) ∧ CC.size = 5) := by rw [← HCC.out]; exact fun w' ho => ⟨((HBL.out w' ho).block _ (Array.getElem?_eq_some_iff.1 G8.out.2.1).1).trans G8.out.2.1, rfl⟩
    have HBS : Hid (∀ w', Only [] W8 w' → SrcV [] bs (.slice q1 n c1) w') := fun w' ho => srcV_of (G8.out.2.2.2.below (HBL.out w' ho))
    have HBY : Hid (∀ w', Only [] W8 w' → Calls Try.prog 14 #[.agg CA] w' fun e u => ∃ v, e = .returned v ∧ Src u v bs ∧ Below w'.heap.size w' u) := by
      rw [← HCA.out]
      exact fun w' ho => (HRY.out w' (G8.out.1.step (HBL.out w' ho)).bel).mono (by rintro e u ⟨q9, c9, rfl, h1, h2⟩; exact ⟨_, rfl, h1, h2⟩)
    have HSS : Hid (∀ w', Only [] W8 w' → Calls Try.prog 16 #[.agg CC, .agg CA] w' fun e u => e = .returned (.bool true) ∧ Below w'.heap.size w' u) := by
      rw [← HCA.out, ← HCC.out]
      intro w' ho
      have := rSame_any A A _ _ w' (G8.out.2.2.1.below (HBL.out w' ho)) (HFA.out w' (G8.out.1.step (HBL.out w' ho)).bel)
      rw [(same_iff A A).2 rfl] at this
      exact this
    have HFI : Hid (∀ w', Only [] W8 w' → Below w.heap.size w w') := fun w' ho => (G8.out.1.step (HBL.out w' ho)).bel
    clear HCA HCC HBL G8 HFA HR HRY HRR HRG HSB HBS0
    have RB : ∀ k w w', Below w.heap.size w w' → (fun (_ : Nat) (_ : World) => True) k w → (fun (_ : Nat) (_ : World) => True) k w' := fun _ _ _ _ _ => trivial
    refine wp_region_st (en14 CA CC bs) (fun u u' => Only [] u u') (SeqS [] (fun (_ : Nat) (_ : World) => True)) (by kernel_rfl) (only_drew _ _) (only_trans _) (en14_kept CA CC bs) (by kernel_rfl) (SeqS.start (trivial)) ?_ ?_
    · intro i o a' w' f hi inv hS hfi hfw hpre
      have ho : Only [] W8 w' := inv.grow
      have hlt : i < 20 := (Array.getElem?_eq_some_iff.1 hi).1
      obtain rfl|rfl|rfl|rfl|rfl|rfl|rfl|rfl|rfl|rfl|rfl|rfl|rfl|rfl|rfl|rfl|rfl|rfl|rfl|rfl : i = 0 ∨ i = 1 ∨ i = 2 ∨ i = 3 ∨ i = 4 ∨ i = 5 ∨ i = 6 ∨ i = 7 ∨ i = 8 ∨ i = 9 ∨ i = 10 ∨ i = 11 ∨ i = 12 ∨ i = 13 ∨ i = 14 ∨ i = 15 ∨ i = 16 ∨ i = 17 ∨ i = 18 ∨ i = 19 := by omega
      · obtain rfl := Option.some.inj hi
        exact sq_value _ rfl rfl rfl (Below.refl _ _) (by decide) hS RB (by show a'.tmps.getD 5 undef = _; rw [inv.old 5 (notDst_spec (by kernel_rfl))]; rfl)
      · obtain rfl := Option.some.inj hi
        have h0 : a'.tmps.getD 50 undef = _ := pre_of hpre 0 50 (by kernel_rfl) (by kernel_rfl)
        exact sq_value _ rfl rfl (eqlE_run 50 _ _ rfl h0) (Below.refl _ _) (by decide) hS RB (by show Value.bool _ = _; simp)
      · obtain rfl := Option.some.inj hi
        have h0 := pre_of hpre 1 51 (by kernel_rfl) (by kernel_rfl)
        exact sq_value _ rfl rfl (rfl) (Below.refl _ _) (by decide) hS RB h0
      · obtain rfl := Option.some.inj hi
        have hgu : a'.tmps.getD 52 undef = _ := pre_of hpre 2 52 (by kernel_rfl) (by kernel_rfl)
        exact sq_value _ rfl (wanted_of 2 52 true rfl (by kernel_rfl) hgu) rfl (Below.refl _ _) (by decide) hS RB (by show SrcV _ _ (a'.tmps.getD 4 undef) _; rw [inv.old 4 (notDst_spec (by kernel_rfl))]; exact HBS.out w' ho)
      · obtain rfl := Option.some.inj hi
        have hgu : a'.tmps.getD 52 undef = _ := pre_of hpre 2 52 (by kernel_rfl) (by kernel_rfl)
        have h0 := pre_of hpre 3 53 (by kernel_rfl) (by kernel_rfl)
        exact sq_value _ rfl (wanted_of 2 52 true rfl (by kernel_rfl) hgu) (conv_run 53 rfl (h0.1)) (Below.refl _ _) (by decide) hS RB rfl
      · obtain rfl := Option.some.inj hi
        have hgu : a'.tmps.getD 52 undef = _ := pre_of hpre 2 52 (by kernel_rfl) (by kernel_rfl)
        have h0 : a'.tmps.getD 3 undef = (.pointer (some ⟨p3, 0, none⟩)) := by rw [inv.old 3 (notDst_spec (by kernel_rfl))]; rfl
        exact sq_value _ rfl (wanted_of 2 52 true rfl (by kernel_rfl) hgu) (load_run 28 3 p3 (0) _ rfl h0 (ld28 (HR3.out w' ho))) (Below.refl _ _) (by decide) hS RB rfl
      · obtain rfl := Option.some.inj hi
        have hgu : a'.tmps.getD 52 undef = _ := pre_of hpre 2 52 (by kernel_rfl) (by kernel_rfl)
        have h0 : a'.tmps.getD 55 undef = _ := pre_of hpre 5 55 (by kernel_rfl) (by kernel_rfl)
        refine sq_quiet 14 #[a'.tmps.getD 55 undef] rfl (wanted_of 2 52 true rfl (by kernel_rfl) hgu) (by kernel_rfl) (by decide) hS ?_
        rw [h0]
        exact (HBY.out w' ho).mono (by rintro e u ⟨v, rfl, h1, h2⟩; exact ⟨_, rfl, Only.of_below h2 _, (fun _ h => h), srcV_of h1⟩)
      · obtain rfl := Option.some.inj hi
        have hgu : a'.tmps.getD 52 undef = _ := pre_of hpre 2 52 (by kernel_rfl) (by kernel_rfl)
        have h0 := pre_of hpre 6 56 (by kernel_rfl) (by kernel_rfl)
        exact sq_value _ rfl (wanted_of 2 52 true rfl (by kernel_rfl) hgu) (conv_run 56 rfl (h0.1)) (Below.refl _ _) (by decide) hS RB rfl
      · obtain rfl := Option.some.inj hi
        have hgu : a'.tmps.getD 52 undef = _ := pre_of hpre 2 52 (by kernel_rfl) (by kernel_rfl)
        have h0 : a'.tmps.getD 54 undef = _ := pre_of hpre 4 54 (by kernel_rfl) (by kernel_rfl)
        have h1 : a'.tmps.getD 57 undef = _ := pre_of hpre 7 57 (by kernel_rfl) (by kernel_rfl)
        exact sq_value _ rfl (wanted_of 2 52 true rfl (by kernel_rfl) hgu) (eqlS_run 54 57 _ _ rfl h0 h1) (Below.refl _ _) (by decide) hS RB (by show Value.bool _ = _; simp)
      · obtain rfl := Option.some.inj hi
        have h0 : a'.tmps.getD 52 undef = _ := pre_of hpre 2 52 (by kernel_rfl) (by kernel_rfl)
        have h1 : a'.tmps.getD 58 undef = _ := pre_of hpre 8 58 (by kernel_rfl) (by kernel_rfl)
        exact sq_value _ rfl rfl (pick_run 52 true _ _ _ _ rfl h0 h1 rfl) (Below.refl _ _) (by decide) hS RB rfl
      · obtain rfl := Option.some.inj hi
        have h0 := pre_of hpre 9 59 (by kernel_rfl) (by kernel_rfl)
        exact sq_value _ rfl rfl (rfl) (Below.refl _ _) (by decide) hS RB h0
      · obtain rfl := Option.some.inj hi
        have hgu : a'.tmps.getD 60 undef = _ := pre_of hpre 10 60 (by kernel_rfl) (by kernel_rfl)
        exact sq_value _ rfl (wanted_of 10 60 true rfl (by kernel_rfl) hgu) rfl (Below.refl _ _) (by decide) hS RB (by show a'.tmps.getD 7 undef = _; rw [inv.old 7 (notDst_spec (by kernel_rfl))]; rfl)
      · obtain rfl := Option.some.inj hi
        have hgu : a'.tmps.getD 60 undef = _ := pre_of hpre 10 60 (by kernel_rfl) (by kernel_rfl)
        have h0 : a'.tmps.getD 61 undef = _ := pre_of hpre 11 61 (by kernel_rfl) (by kernel_rfl)
        exact sq_value _ rfl (wanted_of 10 60 true rfl (by kernel_rfl) hgu) (eqlE_run 61 _ _ rfl h0) (Below.refl _ _) (by decide) hS RB (by show Value.bool _ = _; simp)
      · obtain rfl := Option.some.inj hi
        have h0 : a'.tmps.getD 60 undef = _ := pre_of hpre 10 60 (by kernel_rfl) (by kernel_rfl)
        have h1 : a'.tmps.getD 62 undef = _ := pre_of hpre 12 62 (by kernel_rfl) (by kernel_rfl)
        exact sq_value _ rfl rfl (pick_run 60 true _ _ _ _ rfl h0 h1 rfl) (Below.refl _ _) (by decide) hS RB rfl
      · obtain rfl := Option.some.inj hi
        have h0 := pre_of hpre 13 63 (by kernel_rfl) (by kernel_rfl)
        exact sq_value _ rfl rfl (rfl) (Below.refl _ _) (by decide) hS RB h0
      · obtain rfl := Option.some.inj hi
        have hgu : a'.tmps.getD 64 undef = _ := pre_of hpre 14 64 (by kernel_rfl) (by kernel_rfl)
        have h0 : a'.tmps.getD 6 undef = (.pointer (some ⟨p6, 0, none⟩)) := by rw [inv.old 6 (notDst_spec (by kernel_rfl))]; rfl
        exact sq_value _ rfl (wanted_of 14 64 true rfl (by kernel_rfl) hgu) (load_run 25 6 p6 (0) _ rfl h0 (ld25 (HR6.out w' ho))) (Below.refl _ _) (by decide) hS RB rfl
      · obtain rfl := Option.some.inj hi
        have hgu : a'.tmps.getD 64 undef = _ := pre_of hpre 14 64 (by kernel_rfl) (by kernel_rfl)
        have h0 : a'.tmps.getD 3 undef = (.pointer (some ⟨p3, 0, none⟩)) := by rw [inv.old 3 (notDst_spec (by kernel_rfl))]; rfl
        exact sq_value _ rfl (wanted_of 14 64 true rfl (by kernel_rfl) hgu) (load_run 28 3 p3 (0) _ rfl h0 (ld28 (HR3.out w' ho))) (Below.refl _ _) (by decide) hS RB rfl
      · obtain rfl := Option.some.inj hi
        have hgu : a'.tmps.getD 64 undef = _ := pre_of hpre 14 64 (by kernel_rfl) (by kernel_rfl)
        have h0 : a'.tmps.getD 65 undef = _ := pre_of hpre 15 65 (by kernel_rfl) (by kernel_rfl)
        have h1 : a'.tmps.getD 66 undef = _ := pre_of hpre 16 66 (by kernel_rfl) (by kernel_rfl)
        refine sq_quiet 16 #[a'.tmps.getD 65 undef, a'.tmps.getD 66 undef] rfl (wanted_of 14 64 true rfl (by kernel_rfl) hgu) (by kernel_rfl) (by decide) hS ?_
        rw [h0, h1]
        exact (HSS.out w' ho).mono (by rintro e u ⟨rfl, h2⟩; exact ⟨_, rfl, Only.of_below h2 _, (fun _ h => h), rfl⟩)
      · obtain rfl := Option.some.inj hi
        have h0 : a'.tmps.getD 64 undef = _ := pre_of hpre 14 64 (by kernel_rfl) (by kernel_rfl)
        have h1 : a'.tmps.getD 67 undef = _ := pre_of hpre 17 67 (by kernel_rfl) (by kernel_rfl)
        exact sq_value _ rfl rfl (pick_run 64 true _ _ _ _ rfl h0 h1 rfl) (Below.refl _ _) (by decide) hS RB rfl
      · obtain rfl := Option.some.inj hi
        have h0 := pre_of hpre 18 68 (by kernel_rfl) (by kernel_rfl)
        exact sq_value _ rfl rfl (rfl) (Below.refl _ _) (by decide) hS RB h0
    · intro a' w9 f inv hS hall hd
      have hk19 := hd 19 2 (by kernel_rfl)
      have ho : Only [] W8 w9 := inv.grow
      have hdf : a'.defers = [] := inv.defers
      have e := frame_of [2, 50, 51, 52, 53, 54, 55, 56, 57, 58, 59, 60, 61, 62, 63, 64, 65, 66, 67, 68] inv.size (fun t ht => inv.old t (dstsIn_spec (ts := [2, 50, 51, 52, 53, 54, 55, 56, 57, 58, 59, 60, 61, 62, 63, 64, 65, 66, 67, 68]) (by kernel_rfl) t ht))
      have hR := hS.done (fun c hc => hall c (show c < 20 by simp at hc <;> omega))
      clear inv hd hall hS
      obtain ⟨tmps, defers⟩ := a'
      obtain rfl : defers = [] := hdf
      replace e : tmps = List.foldl (fun G t => G.setIfInBounds t (tmps.getD t undef)) _ [2, 50, 51, 52, 53, 54, 55, 56, 57, 58, 59, 60, 61, 62, 63, 64, 65, 66, 67, 68] := e
      simp only [List.foldl_cons, List.foldl_nil] at e
      replace hk19 : tmps.getD 2 undef = (.bool true) := hk19
      generalize tmps.getD 2 undef = x2 at *
      generalize tmps.getD 50 undef = x50 at *
      generalize tmps.getD 51 undef = x51 at *
      generalize tmps.getD 52 undef = x52 at *
      generalize tmps.getD 53 undef = x53 at *
      generalize tmps.getD 54 undef = x54 at *
      generalize tmps.getD 55 undef = x55 at *
      generalize tmps.getD 56 undef = x56 at *
      generalize tmps.getD 57 undef = x57 at *
      generalize tmps.getD 58 undef = x58 at *
      generalize tmps.getD 59 undef = x59 at *
      generalize tmps.getD 60 undef = x60 at *
      generalize tmps.getD 61 undef = x61 at *
      generalize tmps.getD 62 undef = x62 at *
      generalize tmps.getD 63 undef = x63 at *
      generalize tmps.getD 64 undef = x64 at *
      generalize tmps.getD 65 undef = x65 at *
      generalize tmps.getD 66 undef = x66 at *
      generalize tmps.getD 67 undef = x67 at *
      generalize tmps.getD 68 undef = x68 at *
      simp only [List.setIfInBounds_toArray, List.set_cons_succ, List.set_cons_zero] at e
      subst e
      subst hk19
      go_wp2_with fail
      go_ret
      exact ⟨rfl, HFI.out _ ho⟩
theorem encodes_any (f : Fr) (v : Value) (w : World) (hf : FrIs w v f) : Calls Try.prog 3 #[v] w fun e w' => e = .returned (.bool true) ∧ Below w.heap.size w w' := by
  cases hs : small f with
  | false => exact enc_e1 f v w hf hs
  | true =>
    cases hr : right f with
    | false => exact enc_f f v w hf hs hr
    | true =>
      by_cases hl : 32768 < (bytes f).length
      · exact enc_b f v w hf hs hr hl
      · exact enc_t f v w hf hs hr (by omega)
end Go.Proofs.Ytmllecdbedighaa.F17
