/- The walk of FrameCuts. -/
import Derived.Test.YtmllecdbedighaaF17Anc
import Derived.Test.YtmllecdbedighaaC8OwnB
namespace Go.Proofs.Ytmllecdbedighaa.F17
open Go.RowKit C8 E9
set_option maxHeartbeats 2000000 in
theorem cuts_e1 (f : Fr) (v : Value) (cut : Int) (ma : Option Addr) (mn mc : Nat) (w : World) (hf : FrIs w v f) (hs : small f = false) : Calls Try.prog 6 #[v, .int .i64 cut, .slice ma mn mc] w fun e w' => e = .returned (.bool true) ∧ Below w.heap.size w w' := by
  have hA := hf
  obtain ⟨q, c, sp, sc, rfl, -⟩ := hf
  have HEN : Hid (∀ W, Below w.heap.size w W → FrIs W (.agg (FrV f q c sp sc)) f) := fun W h => hA.below h
  have HC9 : ∀ W, Hid (St9 w W w.heap.size (FrV f q c sp sc)) → Calls Try.prog 9 #[] W fun e w' => e = .returned (.bool true) ∧ Hid (St9 w w' w.heap.size (FrV f q c sp sc)) ∧ w'.cell? ⟨w.heap.size, 0, none⟩ = some (.int .i64 f.kind) ∧ w'.cell? ⟨w.heap.size, 1, none⟩ = some (.int .i64 f.coll) ∧ w'.cell? ⟨w.heap.size, 2, none⟩ = some (.int .i64 f.idx) ∧ w'.cell? ⟨w.heap.size, 3, none⟩ = some (.slice q f.links.length c) ∧ w'.cell? ⟨w.heap.size, 4, none⟩ = some (.slice sp f.sum.length sc) := fun W h => (anchor_any W).mono (by rintro e w' ⟨rfl, hb⟩; exact ⟨rfl, h.out.step hb, (h.out.step hb).cells⟩)
  have HC10 : ∀ W, Hid (St9 w W w.heap.size (FrV f q c sp sc)) → Calls Try.prog 10 #[.agg (FrV f q c sp sc)] W fun e w' => e = .returned (.bool (small f)) ∧ Hid (St9 w w' w.heap.size (FrV f q c sp sc)) ∧ w'.cell? ⟨w.heap.size, 0, none⟩ = some (.int .i64 f.kind) ∧ w'.cell? ⟨w.heap.size, 1, none⟩ = some (.int .i64 f.coll) ∧ w'.cell? ⟨w.heap.size, 2, none⟩ = some (.int .i64 f.idx) ∧ w'.cell? ⟨w.heap.size, 3, none⟩ = some (.slice q f.links.length c) ∧ w'.cell? ⟨w.heap.size, 4, none⟩ = some (.slice sp f.sum.length sc) := fun W h => (small_any f _ W (HEN.out W h.out.bel)).mono (by rintro e w' ⟨rfl, hb⟩; exact ⟨rfl, h.out.step hb, (h.out.step hb).cells⟩)
  have HS0 : Hid (St9 w (w.alloc (.cells (FrV f q c sp sc) 25)) w.heap.size (FrV f q c sp sc)) := St9.start w _
  clear hA HEN
  rw [hs] at HC10
  clear hs
  obtain ⟨k, cl, i, ls, t⟩ := f
  simp only [FrV] at HC9 HC10 HS0 ⊢
  generalize ls.length = n3 at *
  generalize t.length = n4 at *
  go_enter Try.func6, Try.ntmps6
  go_wp2_with (first | (go_at_call 9; refine (HC9 _ HS0).mono ?_; rintro e w1 ⟨rfl, S1, d0, d1, d2, d3, d4⟩) | (go_at_call 10; refine (HC10 _ S1).mono ?_; rintro e w2 ⟨rfl, S2, e0, e1, e2, e3, e4⟩))
  go_ret
  exact ⟨rfl, S2.out.bel⟩
set_option maxHeartbeats 2000000 in
theorem cuts_e2 (f : Fr) (v : Value) (cut : Int) (ma : Option Addr) (mn mc : Nat) (w : World) (hf : FrIs w v f) (hs : small f = true) (hc : cut < 0) : Calls Try.prog 6 #[v, .int .i64 cut, .slice ma mn mc] w fun e w' => e = .returned (.bool true) ∧ Below w.heap.size w w' := by
  have hA := hf
  obtain ⟨q, c, sp, sc, rfl, -⟩ := hf
  have HEN : Hid (∀ W, Below w.heap.size w W → FrIs W (.agg (FrV f q c sp sc)) f) := fun W h => hA.below h
  have HC9 : ∀ W, Hid (St9 w W w.heap.size (FrV f q c sp sc)) → Calls Try.prog 9 #[] W fun e w' => e = .returned (.bool true) ∧ Hid (St9 w w' w.heap.size (FrV f q c sp sc)) ∧ w'.cell? ⟨w.heap.size, 0, none⟩ = some (.int .i64 f.kind) ∧ w'.cell? ⟨w.heap.size, 1, none⟩ = some (.int .i64 f.coll) ∧ w'.cell? ⟨w.heap.size, 2, none⟩ = some (.int .i64 f.idx) ∧ w'.cell? ⟨w.heap.size, 3, none⟩ = some (.slice q f.links.length c) ∧ w'.cell? ⟨w.heap.size, 4, none⟩ = some (.slice sp f.sum.length sc) := fun W h => (anchor_any W).mono (by rintro e w' ⟨rfl, hb⟩; exact ⟨rfl, h.out.step hb, (h.out.step hb).cells⟩)
  have HC10 : ∀ W, Hid (St9 w W w.heap.size (FrV f q c sp sc)) → Calls Try.prog 10 #[.agg (FrV f q c sp sc)] W fun e w' => e = .returned (.bool (small f)) ∧ Hid (St9 w w' w.heap.size (FrV f q c sp sc)) ∧ w'.cell? ⟨w.heap.size, 0, none⟩ = some (.int .i64 f.kind) ∧ w'.cell? ⟨w.heap.size, 1, none⟩ = some (.int .i64 f.coll) ∧ w'.cell? ⟨w.heap.size, 2, none⟩ = some (.int .i64 f.idx) ∧ w'.cell? ⟨w.heap.size, 3, none⟩ = some (.slice q f.links.length c) ∧ w'.cell? ⟨w.heap.size, 4, none⟩ = some (.slice sp f.sum.length sc) := fun W h => (small_any f _ W (HEN.out W h.out.bel)).mono (by rintro e w' ⟨rfl, hb⟩; exact ⟨rfl, h.out.step hb, (h.out.step hb).cells⟩)
  have HS0 : Hid (St9 w (w.alloc (.cells (FrV f q c sp sc) 25)) w.heap.size (FrV f q c sp sc)) := St9.start w _
  clear hA HEN
  rw [hs] at HC10
  clear hs
  obtain ⟨k, cl, i, ls, t⟩ := f
  simp only [FrV] at HC9 HC10 HS0 ⊢
  generalize ls.length = n3 at *
  generalize t.length = n4 at *
  go_enter Try.func6, Try.ntmps6
  go_wp2_with (first | (go_at_call 9; refine (HC9 _ HS0).mono ?_; rintro e w1 ⟨rfl, S1, d0, d1, d2, d3, d4⟩) | (go_at_call 10; refine (HC10 _ S1).mono ?_; rintro e w2 ⟨rfl, S2, e0, e1, e2, e3, e4⟩))
  go_ret
  exact ⟨rfl, S2.out.bel⟩
set_option maxHeartbeats 2000000 in
theorem cuts_e3 (f : Fr) (v : Value) (cut : Int) (ma : Option Addr) (mn mc : Nat) (w : World) (hf : FrIs w v f) (hs : small f = true) (hc : 0 ≤ cut) (hm : 100 < mn) (hm2 : mn ≤ 9223372036854775807) : Calls Try.prog 6 #[v, .int .i64 cut, .slice ma mn mc] w fun e w' => e = .returned (.bool true) ∧ Below w.heap.size w w' := by
  have hA := hf
  obtain ⟨q, c, sp, sc, rfl, -⟩ := hf
  have HEN : Hid (∀ W, Below w.heap.size w W → FrIs W (.agg (FrV f q c sp sc)) f) := fun W h => hA.below h
  have HC9 : ∀ W, Hid (St9 w W w.heap.size (FrV f q c sp sc)) → Calls Try.prog 9 #[] W fun e w' => e = .returned (.bool true) ∧ Hid (St9 w w' w.heap.size (FrV f q c sp sc)) ∧ w'.cell? ⟨w.heap.size, 0, none⟩ = some (.int .i64 f.kind) ∧ w'.cell? ⟨w.heap.size, 1, none⟩ = some (.int .i64 f.coll) ∧ w'.cell? ⟨w.heap.size, 2, none⟩ = some (.int .i64 f.idx) ∧ w'.cell? ⟨w.heap.size, 3, none⟩ = some (.slice q f.links.length c) ∧ w'.cell? ⟨w.heap.size, 4, none⟩ = some (.slice sp f.sum.length sc) := fun W h => (anchor_any W).mono (by rintro e w' ⟨rfl, hb⟩; exact ⟨rfl, h.out.step hb, (h.out.step hb).cells⟩)
  have HC10 : ∀ W, Hid (St9 w W w.heap.size (FrV f q c sp sc)) → Calls Try.prog 10 #[.agg (FrV f q c sp sc)] W fun e w' => e = .returned (.bool (small f)) ∧ Hid (St9 w w' w.heap.size (FrV f q c sp sc)) ∧ w'.cell? ⟨w.heap.size, 0, none⟩ = some (.int .i64 f.kind) ∧ w'.cell? ⟨w.heap.size, 1, none⟩ = some (.int .i64 f.coll) ∧ w'.cell? ⟨w.heap.size, 2, none⟩ = some (.int .i64 f.idx) ∧ w'.cell? ⟨w.heap.size, 3, none⟩ = some (.slice q f.links.length c) ∧ w'.cell? ⟨w.heap.size, 4, none⟩ = some (.slice sp f.sum.length sc) := fun W h => (small_any f _ W (HEN.out W h.out.bel)).mono (by rintro e w' ⟨rfl, hb⟩; exact ⟨rfl, h.out.step hb, (h.out.step hb).cells⟩)
  have HS0 : Hid (St9 w (w.alloc (.cells (FrV f q c sp sc) 25)) w.heap.size (FrV f q c sp sc)) := St9.start w _
  clear hA HEN
  rw [hs] at HC10
  clear hs
  have hm1 : (100 : Int) < (mn : Int) := by omega
  have hm3 : (mn : Int) ≤ 9223372036854775807 := by omega
  obtain ⟨k, cl, i, ls, t⟩ := f
  simp only [FrV] at HC9 HC10 HS0 ⊢
  generalize ls.length = n3 at *
  generalize t.length = n4 at *
  go_enter Try.func6, Try.ntmps6
  go_wp2_with (first | (go_at_call 9; refine (HC9 _ HS0).mono ?_; rintro e w1 ⟨rfl, S1, d0, d1, d2, d3, d4⟩) | (go_at_call 10; refine (HC10 _ S1).mono ?_; rintro e w2 ⟨rfl, S2, e0, e1, e2, e3, e4⟩))
  go_ret
  exact ⟨rfl, S2.out.bel⟩
set_option maxHeartbeats 2000000 in
theorem cuts_e4 (f : Fr) (v : Value) (cut : Int) (ma : Option Addr) (mn mc : Nat) (w : World) (hf : FrIs w v f) (hs : small f = true) (hc : 0 ≤ cut) (hm : mn ≤ 100) (hr : ¬ (right f = true ∧ (bytes f).length ≤ 32768)) : Calls Try.prog 6 #[v, .int .i64 cut, .slice ma mn mc] w fun e w' => e = .returned (.bool true) ∧ Below w.heap.size w w' := by
  have hA := hf
  obtain ⟨q, c, sp, sc, rfl, -⟩ := hf
  have HEN : Hid (∀ W, Below w.heap.size w W → FrIs W (.agg (FrV f q c sp sc)) f) := fun W h => hA.below h
  have HC9 : ∀ W, Hid (St9 w W w.heap.size (FrV f q c sp sc)) → Calls Try.prog 9 #[] W fun e w' => e = .returned (.bool true) ∧ Hid (St9 w w' w.heap.size (FrV f q c sp sc)) ∧ w'.cell? ⟨w.heap.size, 0, none⟩ = some (.int .i64 f.kind) ∧ w'.cell? ⟨w.heap.size, 1, none⟩ = some (.int .i64 f.coll) ∧ w'.cell? ⟨w.heap.size, 2, none⟩ = some (.int .i64 f.idx) ∧ w'.cell? ⟨w.heap.size, 3, none⟩ = some (.slice q f.links.length c) ∧ w'.cell? ⟨w.heap.size, 4, none⟩ = some (.slice sp f.sum.length sc) := fun W h => (anchor_any W).mono (by rintro e w' ⟨rfl, hb⟩; exact ⟨rfl, h.out.step hb, (h.out.step hb).cells⟩)
  have HC10 : ∀ W, Hid (St9 w W w.heap.size (FrV f q c sp sc)) → Calls Try.prog 10 #[.agg (FrV f q c sp sc)] W fun e w' => e = .returned (.bool (small f)) ∧ Hid (St9 w w' w.heap.size (FrV f q c sp sc)) ∧ w'.cell? ⟨w.heap.size, 0, none⟩ = some (.int .i64 f.kind) ∧ w'.cell? ⟨w.heap.size, 1, none⟩ = some (.int .i64 f.coll) ∧ w'.cell? ⟨w.heap.size, 2, none⟩ = some (.int .i64 f.idx) ∧ w'.cell? ⟨w.heap.size, 3, none⟩ = some (.slice q f.links.length c) ∧ w'.cell? ⟨w.heap.size, 4, none⟩ = some (.slice sp f.sum.length sc) := fun W h => (small_any f _ W (HEN.out W h.out.bel)).mono (by rintro e w' ⟨rfl, hb⟩; exact ⟨rfl, h.out.step hb, (h.out.step hb).cells⟩)
  have HS0 : Hid (St9 w (w.alloc (.cells (FrV f q c sp sc) 25)) w.heap.size (FrV f q c sp sc)) := St9.start w _
  have HC11 : ∀ W, Hid (St9 w W w.heap.size (FrV f q c sp sc)) → Calls Try.prog 11 #[.agg (FrV f q c sp sc)] W fun e w' => ∃ er, e = .returned (.tuple #[.slice none 0 0, .int .i64 er]) ∧ (er == 0) = false ∧ ¬ er = 0 ∧ Hid (St9 w w' w.heap.size (FrV f q c sp sc)) := fun W h => (Encode_any f _ W (HEN.out W h.out.bel)).mono (by
    rintro e w' ⟨hb, ⟨h2, h3, _⟩ | ⟨_, _, h2⟩ | ⟨_, h2⟩⟩
    · exact absurd ⟨h2, h3⟩ hr
    · exact ⟨11, h2, rfl, by decide, h.out.step hb⟩
    · exact ⟨10, h2, rfl, by decide, h.out.step hb⟩)
  clear hA HEN hr
  rw [hs] at HC10
  clear hs
  have hm1 : (mn : Int) ≤ 100 := by omega
  obtain ⟨k, cl, i, ls, t⟩ := f
  simp only [FrV] at HC9 HC10 HC11 HS0 ⊢
  generalize ls.length = n3 at *
  generalize t.length = n4 at *
  go_enter Try.func6, Try.ntmps6
  go_wp2_with (first | (go_at_call 9; refine (HC9 _ HS0).mono ?_; rintro e w1 ⟨rfl, S1, d0, d1, d2, d3, d4⟩) | (go_at_call 10; refine (HC10 _ S1).mono ?_; rintro e w2 ⟨rfl, S2, e0, e1, e2, e3, e4⟩) | (go_at_call 11; refine (HC11 _ S2).mono ?_; rintro e w3 ⟨er, rfl, z1, z2, S3⟩))
  go_ret
  exact ⟨rfl, S3.out.bel⟩
set_option maxHeartbeats 2000000 in
theorem cuts_e5 (f : Fr) (v : Value) (cut : Int) (ma : Option Addr) (mn mc : Nat) (w : World) (hf : FrIs w v f) (hs : small f = true) (hc : 0 ≤ cut) (hm : mn ≤ 100) (hr : right f = true) (hl : (bytes f).length ≤ 32768) (hb : 30000 < (bytes f).length) : Calls Try.prog 6 #[v, .int .i64 cut, .slice ma mn mc] w fun e w' => e = .returned (.bool true) ∧ Below w.heap.size w w' := by
  have hA := hf
  obtain ⟨q, c, sp, sc, rfl, -⟩ := hf
  have HEN : Hid (∀ W, Below w.heap.size w W → FrIs W (.agg (FrV f q c sp sc)) f) := fun W h => hA.below h
  have HC9 : ∀ W, Hid (St9 w W w.heap.size (FrV f q c sp sc)) → Calls Try.prog 9 #[] W fun e w' => e = .returned (.bool true) ∧ Hid (St9 w w' w.heap.size (FrV f q c sp sc)) ∧ w'.cell? ⟨w.heap.size, 0, none⟩ = some (.int .i64 f.kind) ∧ w'.cell? ⟨w.heap.size, 1, none⟩ = some (.int .i64 f.coll) ∧ w'.cell? ⟨w.heap.size, 2, none⟩ = some (.int .i64 f.idx) ∧ w'.cell? ⟨w.heap.size, 3, none⟩ = some (.slice q f.links.length c) ∧ w'.cell? ⟨w.heap.size, 4, none⟩ = some (.slice sp f.sum.length sc) := fun W h => (anchor_any W).mono (by rintro e w' ⟨rfl, hb⟩; exact ⟨rfl, h.out.step hb, (h.out.step hb).cells⟩)
  have HC10 : ∀ W, Hid (St9 w W w.heap.size (FrV f q c sp sc)) → Calls Try.prog 10 #[.agg (FrV f q c sp sc)] W fun e w' => e = .returned (.bool (small f)) ∧ Hid (St9 w w' w.heap.size (FrV f q c sp sc)) ∧ w'.cell? ⟨w.heap.size, 0, none⟩ = some (.int .i64 f.kind) ∧ w'.cell? ⟨w.heap.size, 1, none⟩ = some (.int .i64 f.coll) ∧ w'.cell? ⟨w.heap.size, 2, none⟩ = some (.int .i64 f.idx) ∧ w'.cell? ⟨w.heap.size, 3, none⟩ = some (.slice q f.links.length c) ∧ w'.cell? ⟨w.heap.size, 4, none⟩ = some (.slice sp f.sum.length sc) := fun W h => (small_any f _ W (HEN.out W h.out.bel)).mono (by rintro e w' ⟨rfl, hb⟩; exact ⟨rfl, h.out.step hb, (h.out.step hb).cells⟩)
  have HS0 : Hid (St9 w (w.alloc (.cells (FrV f q c sp sc) 25)) w.heap.size (FrV f q c sp sc)) := St9.start w _
  have HC11 : ∀ W, Hid (St9 w W w.heap.size (FrV f q c sp sc)) → Calls Try.prog 11 #[.agg (FrV f q c sp sc)] W fun e w' => ∃ g cb, e = .returned (.tuple #[.slice (some ⟨g, 0, none⟩) (bytes f).length cb, .int .i64 0]) ∧ Hid (Below w.heap.size w w') := fun W h => (Encode_any f _ W (HEN.out W h.out.bel)).mono (by
    rintro e w' ⟨hb, ⟨_, _, v, rfl, ho⟩ | ⟨_, h2, _⟩ | ⟨h2, _⟩⟩
    · obtain ⟨g, cb, rfl, _⟩ := own_cell ho (by have := (bytes_length hr).2; omega)
      exact ⟨g, cb, rfl, h.out.bel.trans (bel_le hb h.out.bel.size)⟩
    · omega
    · rw [hr] at h2; cases h2)
  clear hA HEN hr
  rw [hs] at HC10
  clear hs
  generalize (bytes f).length = n at *
  have hn1 : (30000 : Int) < (n : Int) := by omega
  have hn2 : (n : Int) ≤ 1000000 := by omega
  clear hb hl
  have hm1 : (mn : Int) ≤ 100 := by omega
  obtain ⟨k, cl, i, ls, t⟩ := f
  simp only [FrV] at HC9 HC10 HC11 HS0 ⊢
  generalize ls.length = n3 at *
  generalize t.length = n4 at *
  go_enter Try.func6, Try.ntmps6
  go_wp2_with (first | (go_at_call 9; refine (HC9 _ HS0).mono ?_; rintro e w1 ⟨rfl, S1, d0, d1, d2, d3, d4⟩) | (go_at_call 10; refine (HC10 _ S1).mono ?_; rintro e w2 ⟨rfl, S2, e0, e1, e2, e3, e4⟩) | (go_at_call 11; refine (HC11 _ S2).mono ?_; rintro e w3 ⟨g, cb, rfl, B3⟩))
  go_ret
  exact ⟨rfl, B3.out⟩
set_option maxHeartbeats 4000000 in
theorem cuts_main (f : Fr) (v : Value) (cut : Int) (ma : Option Addr) (mn mc : Nat) (w : World) (hf : FrIs w v f) (hs : small f = true) (hc : 0 ≤ cut) (hm : mn ≤ 100) (hr : right f = true) (hl : (bytes f).length ≤ 30000) (lm : List Nat) (hlm : lm.length = mn) (hsm : Src w (.slice ma mn mc) lm) : Calls Try.prog 6 #[v, .int .i64 cut, .slice ma mn mc] w fun e w' => e = .returned (.bool true) ∧ Below w.heap.size w w' := by
  have hA := hf
  obtain ⟨q, c, sp, sc, rfl, -⟩ := hf
  have HEN : Hid (∀ W, Below w.heap.size w W → FrIs W (.agg (FrV f q c sp sc)) f) := fun W h => hA.below h
  have HC9 : ∀ W, Hid (St9 w W w.heap.size (FrV f q c sp sc)) → Calls Try.prog 9 #[] W fun e w' => e = .returned (.bool true) ∧ Hid (St9 w w' w.heap.size (FrV f q c sp sc)) ∧ w'.cell? ⟨w.heap.size, 0, none⟩ = some (.int .i64 f.kind) ∧ w'.cell? ⟨w.heap.size, 1, none⟩ = some (.int .i64 f.coll) ∧ w'.cell? ⟨w.heap.size, 2, none⟩ = some (.int .i64 f.idx) ∧ w'.cell? ⟨w.heap.size, 3, none⟩ = some (.slice q f.links.length c) ∧ w'.cell? ⟨w.heap.size, 4, none⟩ = some (.slice sp f.sum.length sc) := fun W h => (anchor_any W).mono (by rintro e w' ⟨rfl, hb⟩; exact ⟨rfl, h.out.step hb, (h.out.step hb).cells⟩)
  have HC10 : ∀ W, Hid (St9 w W w.heap.size (FrV f q c sp sc)) → Calls Try.prog 10 #[.agg (FrV f q c sp sc)] W fun e w' => e = .returned (.bool (small f)) ∧ Hid (St9 w w' w.heap.size (FrV f q c sp sc)) ∧ w'.cell? ⟨w.heap.size, 0, none⟩ = some (.int .i64 f.kind) ∧ w'.cell? ⟨w.heap.size, 1, none⟩ = some (.int .i64 f.coll) ∧ w'.cell? ⟨w.heap.size, 2, none⟩ = some (.int .i64 f.idx) ∧ w'.cell? ⟨w.heap.size, 3, none⟩ = some (.slice q f.links.length c) ∧ w'.cell? ⟨w.heap.size, 4, none⟩ = some (.slice sp f.sum.length sc) := fun W h => (small_any f _ W (HEN.out W h.out.bel)).mono (by rintro e w' ⟨rfl, hb⟩; exact ⟨rfl, h.out.step hb, (h.out.step hb).cells⟩)
  have HS0 : Hid (St9 w (w.alloc (.cells (FrV f q c sp sc) 25)) w.heap.size (FrV f q c sp sc)) := St9.start w _
  have hsb : ∀ x ∈ bytes f, x < 256 := bytes_small hA.small
  have HC11 : ∀ W, Hid (St9 w W w.heap.size (FrV f q c sp sc)) → Calls Try.prog 11 #[.agg (FrV f q c sp sc)] W fun e w' => ∃ g cb, e = .returned (.tuple #[.slice (some ⟨g, 0, none⟩) (bytes f).length cb, .int .i64 0]) ∧ Hid (Below w.heap.size w w') ∧ Hid (w'.rangeAt g 0 (ints .u8 (bytes f))) ∧ (bytes f).length ≤ cb := fun W h => (Encode_any f _ W (HEN.out W h.out.bel)).mono (by
    rintro e w' ⟨hb, ⟨_, _, v, rfl, ho⟩ | ⟨_, h2, _⟩ | ⟨h2, _⟩⟩
    · obtain ⟨g, cb, rfl, _, _, hcb, hrr⟩ := own_cell ho (by have := (bytes_length hr).2; omega)
      exact ⟨g, cb, rfl, h.out.bel.trans (bel_le hb h.out.bel.size), hrr, hcb⟩
    · omega
    · rw [hr] at h2; cases h2)
  have HCUT : ∀ W g k cb, Hid (Below w.heap.size w W) → Hid (W.rangeAt g 0 (ints .u8 (bytes f))) → Hid (k < (bytes f).length ∧ k ≤ cb) → Calls Try.prog 15 #[.slice (some ⟨g, 0, none⟩) k cb] W fun e w' => e = .returned (.tuple #[.agg #[.int .i64 0, .int .i64 0, .int .i64 0, .slice none 0 0, .slice none 0 0], .int .i64 10]) ∧ Hid (Below W.heap.size W w') ∧ Hid (Below w.heap.size w w') := fun W g k cb h1 h2 h3 => by
    have hlt : ((bytes f).take k).length = k := by rw [List.length_take]; have := h3.out; omega
    have hsr : Src W (.slice (some ⟨g, 0, none⟩) k cb) ((bytes f).take k) := Src.row (fun x hx => hsb x (List.mem_of_mem_take hx)) (by rw [hlt]; exact h3.out.2) (range_take h2.out k) hlt
    refine (Decode_any _ _ W hsr).mono ?_
    rintro e w' ⟨hb, ⟨h4, _⟩ | ⟨_, ⟨F, v, hd, _⟩ | ⟨_, rfl⟩⟩⟩
    · rw [hlt] at h4
      have := h3.out
      omega
    · rw [dec_cut hr hA.small h3.out.1] at hd
      cases hd
    · exact ⟨rfl, hb, h1.out.trans (bel_le hb h1.out.size)⟩
  have HMORE : ∀ W v, Hid (Below w.heap.size w W) → Hid (Src W v (bytes f ++ lm)) → Calls Try.prog 15 #[v] W fun e w' => ∃ i0 i1 i2 p3 l3 c3 p4 l4 c4 er, e = .returned (.tuple #[.agg #[.int .i64 i0, .int .i64 i1, .int .i64 i2, .slice p3 l3 c3, .slice p4 l4 c4], .int .i64 er]) ∧ Hid ((mn = 0 → er = 0) ∧ (mn ≠ 0 → er = 10)) ∧ Hid (∀ o, Below w.heap.size w (w'.alloc o)) := fun W v h1 h2 => by
    refine (Decode_any _ _ W h2.out).mono ?_
    rintro e w' ⟨hb, ⟨h4, _⟩ | ⟨_, ⟨F, v, hd, rfl, hn⟩ | ⟨hd, rfl⟩⟩⟩
    · rw [List.length_append, hlm] at h4
      omega
    · obtain ⟨xq, xc, yq, yc, rfl, -⟩ := hn.is
      have hbw : Below w.heap.size w w' := h1.out.trans (bel_le hb h1.out.size)
      refine ⟨_, _, _, _, _, _, _, _, _, 0, rfl, ⟨fun _ => rfl, fun h => ?_⟩, fun o => hbw.alloc hbw.size o⟩
      rw [dec_more hr (fun e => h (by rw [← hlm, e]; rfl))] at hd
      cases hd
    · have hbw : Below w.heap.size w w' := h1.out.trans (bel_le hb h1.out.size)
      refine ⟨_, _, _, _, _, _, _, _, _, 10, rfl, ⟨fun h => ?_, fun _ => rfl⟩, fun o => hbw.alloc hbw.size o⟩
      have : lm = [] := List.eq_nil_of_length_eq_zero (by omega)
      rw [this, List.append_nil, dec_own hr] at hd
      cases hd
  have HSM : Hid (Old w.heap.size w (.slice ma mn mc) lm) := Old.of hsm
  have HLM : Hid (lm.length = mn) := hlm
  have hb1 := hl
  have hb2 := (bytes_length hr).2
  have HSB : Hid (∀ x ∈ bytes f, x < 256) := hsb
  clear hA HEN hsb hr hsm hlm hl
  rw [hs] at HC10
  clear hs
  have hm1 : (mn : Int) ≤ 100 := by omega
  generalize bytes f = bb at *
  obtain ⟨n, HN⟩ : ∃ n, Hid (bb.length = n) := ⟨_, rfl⟩
  rw [HN.out] at HC11 HCUT hb1 hb2
  have hz1 : ¬ (n : Int) = 0 := by omega
  have hz2 : (0 : Int) < (n : Int) := by omega
  have hz3 : ((n : Int) == 0) = false := by simp; omega
  have hz4 : (n : Int) ≤ 30000 := by omega
  obtain ⟨k9, HK⟩ : ∃ k : Nat, Hid (cut % (n : Int) = (k : Int)) := ⟨(cut % (n : Int)).toNat, by show _ = _; have := Int.emod_nonneg cut hz1; omega⟩
  have hk1 : cut % (n : Int) = (k9 : Int) := HK.out
  have hk2 : cut.tmod (n : Int) = (k9 : Int) := by rw [Int.tmod_eq_emod_of_nonneg hc]; exact HK.out
  have hk3 : (k9 : Int) < (n : Int) := by rw [← hk1]; exact Int.emod_lt_of_pos cut hz2
  have HKN : Hid (k9 < n) := by show _ < _; omega
  clear HK
  obtain ⟨k, cl, i, ls, t⟩ := f
  simp only [FrV] at HC9 HC10 HC11 HS0 ⊢
  generalize ls.length = n3 at *
  generalize t.length = n4 at *
  go_enter Try.func6, Try.ntmps6
  go_wp2_with (first | (go_at_call 9; refine (HC9 _ HS0).mono ?_; rintro e w1 ⟨rfl, S1, d0, d1, d2, d3, d4⟩) | (go_at_call 10; refine (HC10 _ S1).mono ?_; rintro e w2 ⟨rfl, S2, e0, e1, e2, e3, e4⟩) | (go_at_call 11; refine (HC11 _ S2).mono ?_; rintro e w3 ⟨g, cb, rfl, B3, R3, hcb⟩; have hk4 : (k9 : Int) ≤ (cb : Int) := (by omega)))
  clear HC9 HC10 HC11 HS0 S1 S2 d0 d1 d2 d3 d4 e0 e1 e2 e3 e4 hk1 hk2
  refine (HCUT _ _ _ _ B3 R3 ⟨HKN.out, Nat.le_trans (Nat.le_of_lt HKN.out) hcb⟩).mono ?_
  rintro e w4 ⟨rfl, b4, B4⟩
  have HS4 : Hid (Src w4 (.slice (some ⟨g, 0, none⟩) n cb) bb) := Src.below (Src.row HSB.out (by rw [HN.out]; exact hcb) R3.out HN.out) b4.out
  clear b4 B3 R3 hk3 hk4 HCUT
  go_wp2_with (first | with_reducible (refine stop_builtin .append ?_))
  refine Stop.go ?_
  obtain ⟨w5, HW5⟩ : ∃ w5, Hid (w4.alloc (.cells #[.int .i64 0, .int .i64 0, .int .i64 0, .slice none 0 0, .slice none 0 0] 25) = w5) := ⟨_, rfl⟩
  rw [HW5.out]
  have B5 : Hid (Below w.heap.size w w5) := by show Below _ _ _; rw [← HW5.out]; exact B4.out.alloc B4.out.size _
  have HS5 : Hid (Src w5 (.slice (some ⟨g, 0, none⟩) n cb) bb) := by show Src _ _ _; rw [← HW5.out]; exact HS4.out.below (bel_alloc (Nat.le_refl _) _)
  have HSZ : w4.heap.size + 1 = w5.heap.size := by rw [← HW5.out]; simp
  rw [HSZ]
  clear HW5 B4 HS4 HSZ
  have hs6 : Src (w5.alloc (.cells #[] 5)) (.slice (some ⟨g, 0, none⟩) n cb) bb := HS5.out.below (bel_alloc (Nat.le_refl _) _)
  refine law_append_grow w5.heap.size (.slice (some ⟨w5.heap.size, 0, none⟩) 0 0) 0 [] _ bb rfl rfl (own_built w5) hs6 (by rw [HN.out]; omega) (by simp) ?_
  intro v6 w6 h6 g6
  have HV6 : Hid (w6.ownsRow w5.heap.size 5 1 v6 n (ints .u8 bb)) := by
    rw [Nat.zero_add, HN.out] at h6
    exact h6
  have HB6 : Hid (Below w5.heap.size w5 w6) := (bel_alloc (Nat.le_refl _) _).trans (g6.below (own_built w5) (by simp))
  clear h6 g6 hs6 HS5
  go_wp2_with (first | with_reducible (refine stop_builtin .append ?_))
  refine Stop.go ?_
  have hs7 : Src w6 (.slice ma mn mc) lm := (HSM.out.keep (B5.out.trans (bel_le HB6.out B5.out.size))).1
  refine law_append_grow w5.heap.size v6 n bb _ lm rfl rfl HV6.out hs7 (by rw [HLM.out]; omega) HB6.out.size ?_
  intro v7 w7 h7 g7
  have b7 : Below w5.heap.size w5 w7 := HB6.out.trans (g7.below HV6.out HB6.out.size)
  have B7 : Hid (Below w.heap.size w w7) := B5.out.trans (bel_le b7 B5.out.size)
  have HS7 : Hid (Src w7 v7 (bb ++ lm)) := Src.own (fun x hx => by
    rcases List.mem_append.1 hx with hx | hx
    · exact HSB.out x hx
    · exact HSM.out.1.small x hx) h7
  obtain ⟨q7, c7, rfl⟩ := own_slice h7
  clear h7 g7 b7 hs7 HV6 HB6 B5
  by_cases hm0 : mn = 0
  · subst hm0
    go_wp2_with (first | (go_at_call 15; refine (HMORE _ _ B7 HS7).mono ?_; rintro e w8 ⟨i0, i1, i2, p3, l3, c3, p4, l4, c4, er, rfl, HER, B8⟩; obtain rfl := HER.out.1 rfl))
    go_ret
    exact ⟨rfl, B8.out _⟩
  · have hm4 : ((mn : Int) == 0) = false := by simp; omega
    go_wp2_with (first | (go_at_call 15; refine (HMORE _ _ B7 HS7).mono ?_; rintro e w8 ⟨i0, i1, i2, p3, l3, c3, p4, l4, c4, er, rfl, HER, B8⟩; obtain rfl := HER.out.2 hm0))
    go_ret
    exact ⟨rfl, B8.out _⟩
theorem cuts_any (f : Fr) (v : Value) (cut : Int) (ma : Option Addr) (mn mc : Nat) (w : World) (hf : FrIs w v f) (hrow : RowIs w ma mn mc) : Calls Try.prog 6 #[v, .int .i64 cut, .slice ma mn mc] w fun e w' => e = .returned (.bool true) ∧ Below w.heap.size w w' := by
  cases hs : small f with
  | false => exact cuts_e1 f v cut ma mn mc w hf hs
  | true =>
    by_cases hc : cut < 0
    · exact cuts_e2 f v cut ma mn mc w hf hs hc
    · by_cases hm : 100 < mn
      · exact cuts_e3 f v cut ma mn mc w hf hs (by omega) hm hrow.max
      · by_cases hr : right f = true ∧ (bytes f).length ≤ 32768
        · by_cases hb : 30000 < (bytes f).length
          · exact cuts_e5 f v cut ma mn mc w hf hs (by omega) (by omega) hr.1 hr.2 hb
          · obtain ⟨lm, hlm, hsm⟩ := Src.of hrow
            exact cuts_main f v cut ma mn mc w hf hs (by omega) (by omega) hr.1 (by omega) lm hlm hsm
        · exact cuts_e4 f v cut ma mn mc w hf hs (by omega) (by omega) hr
end Go.Proofs.Ytmllecdbedighaa.F17
