/- The walk of EntryCuts. -/
import Derived.Test.YtiihdpkpgcmioaaE9Head
import Derived.Test.YtiihdpkpgcmioaaC8Args
namespace Go.Proofs.Ytiihdpkpgcmioaa.E9
open Go.RowKit C8
set_option maxHeartbeats 2000000 in
theorem cuts_e1 (a : En) (va : Value) (cut : Int) (ma : Option Addr) (mn mc : Nat) (w : World) (ha : EnIs w va a) (hs : small a = false) : Calls Try.prog 6 #[va, .int .i64 cut, .slice ma mn mc] w fun e w' => e = .returned (.bool true) ∧ Below w.heap.size w w' := by
  have hA := ha
  obtain ⟨np, nc, vp, vc, q, c, rfl, -⟩ := ha
  have HEN : Hid (∀ W, Below w.heap.size w W → EnIs W (.agg (EnV a np nc vp vc q c)) a) := fun W h => hA.below h
  have HC9 : ∀ W, Hid (St9 w W w.heap.size (EnV a np nc vp vc q c)) → Calls Try.prog 9 #[] W fun e w' => e = .returned (.bool true) ∧ Hid (St9 w w' w.heap.size (EnV a np nc vp vc q c)) ∧ w'.cell? ⟨w.heap.size, 0, none⟩ = some (.int .i64 a.kind) ∧ w'.cell? ⟨w.heap.size, 1, none⟩ = some (.int .i64 a.writer) ∧ w'.cell? ⟨w.heap.size, 2, none⟩ = some (.int .i64 a.seq) ∧ w'.cell? ⟨w.heap.size, 3, none⟩ = some (.slice np a.name.length nc) ∧ w'.cell? ⟨w.heap.size, 4, none⟩ = some (.slice vp a.value.length vc) ∧ w'.cell? ⟨w.heap.size, 5, none⟩ = some (.int .i64 a.who) ∧ w'.cell? ⟨w.heap.size, 6, none⟩ = some (.int .i64 a.rights) ∧ w'.cell? ⟨w.heap.size, 7, none⟩ = some (.int .i64 a.epoch) ∧ w'.cell? ⟨w.heap.size, 8, none⟩ = some (.slice q a.wraps.length c) := fun W h => (anchor_any W).mono (by rintro e w' ⟨rfl, hb⟩; exact ⟨rfl, h.out.step hb, (h.out.step hb).cells⟩)
  have HC10 : ∀ W, Hid (St9 w W w.heap.size (EnV a np nc vp vc q c)) → Calls Try.prog 10 #[.agg (EnV a np nc vp vc q c)] W fun e w' => e = .returned (.bool (small a)) ∧ Hid (St9 w w' w.heap.size (EnV a np nc vp vc q c)) ∧ w'.cell? ⟨w.heap.size, 0, none⟩ = some (.int .i64 a.kind) ∧ w'.cell? ⟨w.heap.size, 1, none⟩ = some (.int .i64 a.writer) ∧ w'.cell? ⟨w.heap.size, 2, none⟩ = some (.int .i64 a.seq) ∧ w'.cell? ⟨w.heap.size, 3, none⟩ = some (.slice np a.name.length nc) ∧ w'.cell? ⟨w.heap.size, 4, none⟩ = some (.slice vp a.value.length vc) ∧ w'.cell? ⟨w.heap.size, 5, none⟩ = some (.int .i64 a.who) ∧ w'.cell? ⟨w.heap.size, 6, none⟩ = some (.int .i64 a.rights) ∧ w'.cell? ⟨w.heap.size, 7, none⟩ = some (.int .i64 a.epoch) ∧ w'.cell? ⟨w.heap.size, 8, none⟩ = some (.slice q a.wraps.length c) := fun W h => (small_any a _ W (HEN.out W h.out.bel)).mono (by rintro e w' ⟨rfl, hb⟩; exact ⟨rfl, h.out.step hb, (h.out.step hb).cells⟩)
  have HS0 : Hid (St9 w (w.alloc (.cells (EnV a np nc vp vc q c) 25)) w.heap.size (EnV a np nc vp vc q c)) := St9.start w _
  clear hA HEN
  rw [hs] at HC10
  clear hs
  obtain ⟨a1, a2, a3, a4, a5, a6, a7, a8, a9⟩ := a
  simp only [EnV] at HC9 HC10 HS0 ⊢
  generalize a4.length = n4 at *
  generalize a5.length = n5 at *
  generalize a9.length = n9 at *
  go_enter Try.func6, Try.ntmps6
  go_wp2_with (first | (go_at_call 9; refine (HC9 _ HS0).mono ?_; rintro e w1 ⟨rfl, S1, d0, d1, d2, d3, d4, d5, d6, d7, d8⟩) | (go_at_call 10; refine (HC10 _ S1).mono ?_; rintro e w2 ⟨rfl, S2, e0, e1, e2, e3, e4, e5, e6, e7, e8⟩))
  go_ret
  exact ⟨rfl, S2.out.bel⟩
set_option maxHeartbeats 2000000 in
theorem cuts_e2 (a : En) (va : Value) (cut : Int) (ma : Option Addr) (mn mc : Nat) (w : World) (ha : EnIs w va a) (hs : small a = true) (hc : cut < 0) : Calls Try.prog 6 #[va, .int .i64 cut, .slice ma mn mc] w fun e w' => e = .returned (.bool true) ∧ Below w.heap.size w w' := by
  have hA := ha
  obtain ⟨np, nc, vp, vc, q, c, rfl, -⟩ := ha
  have HEN : Hid (∀ W, Below w.heap.size w W → EnIs W (.agg (EnV a np nc vp vc q c)) a) := fun W h => hA.below h
  have HC9 : ∀ W, Hid (St9 w W w.heap.size (EnV a np nc vp vc q c)) → Calls Try.prog 9 #[] W fun e w' => e = .returned (.bool true) ∧ Hid (St9 w w' w.heap.size (EnV a np nc vp vc q c)) ∧ w'.cell? ⟨w.heap.size, 0, none⟩ = some (.int .i64 a.kind) ∧ w'.cell? ⟨w.heap.size, 1, none⟩ = some (.int .i64 a.writer) ∧ w'.cell? ⟨w.heap.size, 2, none⟩ = some (.int .i64 a.seq) ∧ w'.cell? ⟨w.heap.size, 3, none⟩ = some (.slice np a.name.length nc) ∧ w'.cell? ⟨w.heap.size, 4, none⟩ = some (.slice vp a.value.length vc) ∧ w'.cell? ⟨w.heap.size, 5, none⟩ = some (.int .i64 a.who) ∧ w'.cell? ⟨w.heap.size, 6, none⟩ = some (.int .i64 a.rights) ∧ w'.cell? ⟨w.heap.size, 7, none⟩ = some (.int .i64 a.epoch) ∧ w'.cell? ⟨w.heap.size, 8, none⟩ = some (.slice q a.wraps.length c) := fun W h => (anchor_any W).mono (by rintro e w' ⟨rfl, hb⟩; exact ⟨rfl, h.out.step hb, (h.out.step hb).cells⟩)
  have HC10 : ∀ W, Hid (St9 w W w.heap.size (EnV a np nc vp vc q c)) → Calls Try.prog 10 #[.agg (EnV a np nc vp vc q c)] W fun e w' => e = .returned (.bool (small a)) ∧ Hid (St9 w w' w.heap.size (EnV a np nc vp vc q c)) ∧ w'.cell? ⟨w.heap.size, 0, none⟩ = some (.int .i64 a.kind) ∧ w'.cell? ⟨w.heap.size, 1, none⟩ = some (.int .i64 a.writer) ∧ w'.cell? ⟨w.heap.size, 2, none⟩ = some (.int .i64 a.seq) ∧ w'.cell? ⟨w.heap.size, 3, none⟩ = some (.slice np a.name.length nc) ∧ w'.cell? ⟨w.heap.size, 4, none⟩ = some (.slice vp a.value.length vc) ∧ w'.cell? ⟨w.heap.size, 5, none⟩ = some (.int .i64 a.who) ∧ w'.cell? ⟨w.heap.size, 6, none⟩ = some (.int .i64 a.rights) ∧ w'.cell? ⟨w.heap.size, 7, none⟩ = some (.int .i64 a.epoch) ∧ w'.cell? ⟨w.heap.size, 8, none⟩ = some (.slice q a.wraps.length c) := fun W h => (small_any a _ W (HEN.out W h.out.bel)).mono (by rintro e w' ⟨rfl, hb⟩; exact ⟨rfl, h.out.step hb, (h.out.step hb).cells⟩)
  have HS0 : Hid (St9 w (w.alloc (.cells (EnV a np nc vp vc q c) 25)) w.heap.size (EnV a np nc vp vc q c)) := St9.start w _
  clear hA HEN
  rw [hs] at HC10
  clear hs
  obtain ⟨a1, a2, a3, a4, a5, a6, a7, a8, a9⟩ := a
  simp only [EnV] at HC9 HC10 HS0 ⊢
  generalize a4.length = n4 at *
  generalize a5.length = n5 at *
  generalize a9.length = n9 at *
  go_enter Try.func6, Try.ntmps6
  go_wp2_with (first | (go_at_call 9; refine (HC9 _ HS0).mono ?_; rintro e w1 ⟨rfl, S1, d0, d1, d2, d3, d4, d5, d6, d7, d8⟩) | (go_at_call 10; refine (HC10 _ S1).mono ?_; rintro e w2 ⟨rfl, S2, e0, e1, e2, e3, e4, e5, e6, e7, e8⟩))
  go_ret
  exact ⟨rfl, S2.out.bel⟩
set_option maxHeartbeats 2000000 in
theorem cuts_e3 (a : En) (va : Value) (cut : Int) (ma : Option Addr) (mn mc : Nat) (w : World) (ha : EnIs w va a) (hs : small a = true) (hc : 0 ≤ cut) (hm : 100 < mn) (hm2 : mn ≤ 9223372036854775807) : Calls Try.prog 6 #[va, .int .i64 cut, .slice ma mn mc] w fun e w' => e = .returned (.bool true) ∧ Below w.heap.size w w' := by
  have hA := ha
  obtain ⟨np, nc, vp, vc, q, c, rfl, -⟩ := ha
  have HEN : Hid (∀ W, Below w.heap.size w W → EnIs W (.agg (EnV a np nc vp vc q c)) a) := fun W h => hA.below h
  have HC9 : ∀ W, Hid (St9 w W w.heap.size (EnV a np nc vp vc q c)) → Calls Try.prog 9 #[] W fun e w' => e = .returned (.bool true) ∧ Hid (St9 w w' w.heap.size (EnV a np nc vp vc q c)) ∧ w'.cell? ⟨w.heap.size, 0, none⟩ = some (.int .i64 a.kind) ∧ w'.cell? ⟨w.heap.size, 1, none⟩ = some (.int .i64 a.writer) ∧ w'.cell? ⟨w.heap.size, 2, none⟩ = some (.int .i64 a.seq) ∧ w'.cell? ⟨w.heap.size, 3, none⟩ = some (.slice np a.name.length nc) ∧ w'.cell? ⟨w.heap.size, 4, none⟩ = some (.slice vp a.value.length vc) ∧ w'.cell? ⟨w.heap.size, 5, none⟩ = some (.int .i64 a.who) ∧ w'.cell? ⟨w.heap.size, 6, none⟩ = some (.int .i64 a.rights) ∧ w'.cell? ⟨w.heap.size, 7, none⟩ = some (.int .i64 a.epoch) ∧ w'.cell? ⟨w.heap.size, 8, none⟩ = some (.slice q a.wraps.length c) := fun W h => (anchor_any W).mono (by rintro e w' ⟨rfl, hb⟩; exact ⟨rfl, h.out.step hb, (h.out.step hb).cells⟩)
  have HC10 : ∀ W, Hid (St9 w W w.heap.size (EnV a np nc vp vc q c)) → Calls Try.prog 10 #[.agg (EnV a np nc vp vc q c)] W fun e w' => e = .returned (.bool (small a)) ∧ Hid (St9 w w' w.heap.size (EnV a np nc vp vc q c)) ∧ w'.cell? ⟨w.heap.size, 0, none⟩ = some (.int .i64 a.kind) ∧ w'.cell? ⟨w.heap.size, 1, none⟩ = some (.int .i64 a.writer) ∧ w'.cell? ⟨w.heap.size, 2, none⟩ = some (.int .i64 a.seq) ∧ w'.cell? ⟨w.heap.size, 3, none⟩ = some (.slice np a.name.length nc) ∧ w'.cell? ⟨w.heap.size, 4, none⟩ = some (.slice vp a.value.length vc) ∧ w'.cell? ⟨w.heap.size, 5, none⟩ = some (.int .i64 a.who) ∧ w'.cell? ⟨w.heap.size, 6, none⟩ = some (.int .i64 a.rights) ∧ w'.cell? ⟨w.heap.size, 7, none⟩ = some (.int .i64 a.epoch) ∧ w'.cell? ⟨w.heap.size, 8, none⟩ = some (.slice q a.wraps.length c) := fun W h => (small_any a _ W (HEN.out W h.out.bel)).mono (by rintro e w' ⟨rfl, hb⟩; exact ⟨rfl, h.out.step hb, (h.out.step hb).cells⟩)
  have HS0 : Hid (St9 w (w.alloc (.cells (EnV a np nc vp vc q c) 25)) w.heap.size (EnV a np nc vp vc q c)) := St9.start w _
  clear hA HEN
  rw [hs] at HC10
  clear hs
  have hm1 : (100 : Int) < (mn : Int) := by omega
  have hm3 : (mn : Int) ≤ 9223372036854775807 := by omega
  obtain ⟨a1, a2, a3, a4, a5, a6, a7, a8, a9⟩ := a
  simp only [EnV] at HC9 HC10 HS0 ⊢
  generalize a4.length = n4 at *
  generalize a5.length = n5 at *
  generalize a9.length = n9 at *
  go_enter Try.func6, Try.ntmps6
  go_wp2_with (first | (go_at_call 9; refine (HC9 _ HS0).mono ?_; rintro e w1 ⟨rfl, S1, d0, d1, d2, d3, d4, d5, d6, d7, d8⟩) | (go_at_call 10; refine (HC10 _ S1).mono ?_; rintro e w2 ⟨rfl, S2, e0, e1, e2, e3, e4, e5, e6, e7, e8⟩))
  go_ret
  exact ⟨rfl, S2.out.bel⟩
set_option maxHeartbeats 2000000 in
theorem cuts_e4 (a : En) (va : Value) (cut : Int) (ma : Option Addr) (mn mc : Nat) (w : World) (ha : EnIs w va a) (hs : small a = true) (hc : 0 ≤ cut) (hm : mn ≤ 100) (hr : right a = false) : Calls Try.prog 6 #[va, .int .i64 cut, .slice ma mn mc] w fun e w' => e = .returned (.bool true) ∧ Below w.heap.size w w' := by
  have hA := ha
  obtain ⟨np, nc, vp, vc, q, c, rfl, -⟩ := ha
  have HEN : Hid (∀ W, Below w.heap.size w W → EnIs W (.agg (EnV a np nc vp vc q c)) a) := fun W h => hA.below h
  have HC9 : ∀ W, Hid (St9 w W w.heap.size (EnV a np nc vp vc q c)) → Calls Try.prog 9 #[] W fun e w' => e = .returned (.bool true) ∧ Hid (St9 w w' w.heap.size (EnV a np nc vp vc q c)) ∧ w'.cell? ⟨w.heap.size, 0, none⟩ = some (.int .i64 a.kind) ∧ w'.cell? ⟨w.heap.size, 1, none⟩ = some (.int .i64 a.writer) ∧ w'.cell? ⟨w.heap.size, 2, none⟩ = some (.int .i64 a.seq) ∧ w'.cell? ⟨w.heap.size, 3, none⟩ = some (.slice np a.name.length nc) ∧ w'.cell? ⟨w.heap.size, 4, none⟩ = some (.slice vp a.value.length vc) ∧ w'.cell? ⟨w.heap.size, 5, none⟩ = some (.int .i64 a.who) ∧ w'.cell? ⟨w.heap.size, 6, none⟩ = some (.int .i64 a.rights) ∧ w'.cell? ⟨w.heap.size, 7, none⟩ = some (.int .i64 a.epoch) ∧ w'.cell? ⟨w.heap.size, 8, none⟩ = some (.slice q a.wraps.length c) := fun W h => (anchor_any W).mono (by rintro e w' ⟨rfl, hb⟩; exact ⟨rfl, h.out.step hb, (h.out.step hb).cells⟩)
  have HC10 : ∀ W, Hid (St9 w W w.heap.size (EnV a np nc vp vc q c)) → Calls Try.prog 10 #[.agg (EnV a np nc vp vc q c)] W fun e w' => e = .returned (.bool (small a)) ∧ Hid (St9 w w' w.heap.size (EnV a np nc vp vc q c)) ∧ w'.cell? ⟨w.heap.size, 0, none⟩ = some (.int .i64 a.kind) ∧ w'.cell? ⟨w.heap.size, 1, none⟩ = some (.int .i64 a.writer) ∧ w'.cell? ⟨w.heap.size, 2, none⟩ = some (.int .i64 a.seq) ∧ w'.cell? ⟨w.heap.size, 3, none⟩ = some (.slice np a.name.length nc) ∧ w'.cell? ⟨w.heap.size, 4, none⟩ = some (.slice vp a.value.length vc) ∧ w'.cell? ⟨w.heap.size, 5, none⟩ = some (.int .i64 a.who) ∧ w'.cell? ⟨w.heap.size, 6, none⟩ = some (.int .i64 a.rights) ∧ w'.cell? ⟨w.heap.size, 7, none⟩ = some (.int .i64 a.epoch) ∧ w'.cell? ⟨w.heap.size, 8, none⟩ = some (.slice q a.wraps.length c) := fun W h => (small_any a _ W (HEN.out W h.out.bel)).mono (by rintro e w' ⟨rfl, hb⟩; exact ⟨rfl, h.out.step hb, (h.out.step hb).cells⟩)
  have HS0 : Hid (St9 w (w.alloc (.cells (EnV a np nc vp vc q c) 25)) w.heap.size (EnV a np nc vp vc q c)) := St9.start w _
  have HC12 : ∀ W, Hid (St9 w W w.heap.size (EnV a np nc vp vc q c)) → Calls Try.prog 12 #[.agg (EnV a np nc vp vc q c)] W fun e w' => e = .returned (.tuple #[.slice none 0 0, .int .i64 10]) ∧ Hid (St9 w w' w.heap.size (EnV a np nc vp vc q c)) := fun W h => (Encode_any a _ W (HEN.out W h.out.bel)).mono (by
    rintro e w' ⟨hb, ⟨h2, _⟩ | ⟨_, h2⟩⟩
    · rw [hr] at h2; cases h2
    · exact ⟨h2, h.out.step hb⟩)
  clear hA HEN hr
  rw [hs] at HC10
  clear hs
  have hm1 : (mn : Int) ≤ 100 := by omega
  obtain ⟨a1, a2, a3, a4, a5, a6, a7, a8, a9⟩ := a
  simp only [EnV] at HC9 HC10 HC12 HS0 ⊢
  generalize a4.length = n4 at *
  generalize a5.length = n5 at *
  generalize a9.length = n9 at *
  go_enter Try.func6, Try.ntmps6
  go_wp2_with (first | (go_at_call 9; refine (HC9 _ HS0).mono ?_; rintro e w1 ⟨rfl, S1, d0, d1, d2, d3, d4, d5, d6, d7, d8⟩) | (go_at_call 10; refine (HC10 _ S1).mono ?_; rintro e w2 ⟨rfl, S2, e0, e1, e2, e3, e4, e5, e6, e7, e8⟩) | (go_at_call 12; refine (HC12 _ S2).mono ?_; rintro e w3 ⟨rfl, S3⟩))
  go_ret
  exact ⟨rfl, S3.out.bel⟩
set_option maxHeartbeats 4000000 in
theorem cuts_main (a : En) (va : Value) (cut : Int) (ma : Option Addr) (mn mc : Nat) (w : World) (ha : EnIs w va a) (hs : small a = true) (hc : 0 ≤ cut) (hm : mn ≤ 100) (hr : right a = true) (lm : List Nat) (hlm : lm.length = mn) (hsm : Src w (.slice ma mn mc) lm) : Calls Try.prog 6 #[va, .int .i64 cut, .slice ma mn mc] w fun e w' => e = .returned (.bool true) ∧ Below w.heap.size w w' := by
  have hA := ha
  obtain ⟨np, nc, vp, vc, q, c, rfl, -⟩ := ha
  have HEN : Hid (∀ W, Below w.heap.size w W → EnIs W (.agg (EnV a np nc vp vc q c)) a) := fun W h => hA.below h
  have HC9 : ∀ W, Hid (St9 w W w.heap.size (EnV a np nc vp vc q c)) → Calls Try.prog 9 #[] W fun e w' => e = .returned (.bool true) ∧ Hid (St9 w w' w.heap.size (EnV a np nc vp vc q c)) ∧ w'.cell? ⟨w.heap.size, 0, none⟩ = some (.int .i64 a.kind) ∧ w'.cell? ⟨w.heap.size, 1, none⟩ = some (.int .i64 a.writer) ∧ w'.cell? ⟨w.heap.size, 2, none⟩ = some (.int .i64 a.seq) ∧ w'.cell? ⟨w.heap.size, 3, none⟩ = some (.slice np a.name.length nc) ∧ w'.cell? ⟨w.heap.size, 4, none⟩ = some (.slice vp a.value.length vc) ∧ w'.cell? ⟨w.heap.size, 5, none⟩ = some (.int .i64 a.who) ∧ w'.cell? ⟨w.heap.size, 6, none⟩ = some (.int .i64 a.rights) ∧ w'.cell? ⟨w.heap.size, 7, none⟩ = some (.int .i64 a.epoch) ∧ w'.cell? ⟨w.heap.size, 8, none⟩ = some (.slice q a.wraps.length c) := fun W h => (anchor_any W).mono (by rintro e w' ⟨rfl, hb⟩; exact ⟨rfl, h.out.step hb, (h.out.step hb).cells⟩)
  have HC10 : ∀ W, Hid (St9 w W w.heap.size (EnV a np nc vp vc q c)) → Calls Try.prog 10 #[.agg (EnV a np nc vp vc q c)] W fun e w' => e = .returned (.bool (small a)) ∧ Hid (St9 w w' w.heap.size (EnV a np nc vp vc q c)) ∧ w'.cell? ⟨w.heap.size, 0, none⟩ = some (.int .i64 a.kind) ∧ w'.cell? ⟨w.heap.size, 1, none⟩ = some (.int .i64 a.writer) ∧ w'.cell? ⟨w.heap.size, 2, none⟩ = some (.int .i64 a.seq) ∧ w'.cell? ⟨w.heap.size, 3, none⟩ = some (.slice np a.name.length nc) ∧ w'.cell? ⟨w.heap.size, 4, none⟩ = some (.slice vp a.value.length vc) ∧ w'.cell? ⟨w.heap.size, 5, none⟩ = some (.int .i64 a.who) ∧ w'.cell? ⟨w.heap.size, 6, none⟩ = some (.int .i64 a.rights) ∧ w'.cell? ⟨w.heap.size, 7, none⟩ = some (.int .i64 a.epoch) ∧ w'.cell? ⟨w.heap.size, 8, none⟩ = some (.slice q a.wraps.length c) := fun W h => (small_any a _ W (HEN.out W h.out.bel)).mono (by rintro e w' ⟨rfl, hb⟩; exact ⟨rfl, h.out.step hb, (h.out.step hb).cells⟩)
  have HS0 : Hid (St9 w (w.alloc (.cells (EnV a np nc vp vc q c) 25)) w.heap.size (EnV a np nc vp vc q c)) := St9.start w _
  have hsb : ∀ x ∈ bytes a, x < 256 := bytes_small hA.small
  have HC12 : ∀ W, Hid (St9 w W w.heap.size (EnV a np nc vp vc q c)) → Calls Try.prog 12 #[.agg (EnV a np nc vp vc q c)] W fun e w' => ∃ g cb, e = .returned (.tuple #[.slice (some ⟨g, 0, none⟩) (bytes a).length cb, .int .i64 0]) ∧ Hid (Below w.heap.size w w') ∧ Hid (w'.rangeAt g 0 (ints .u8 (bytes a))) ∧ (bytes a).length ≤ cb := fun W h => (Encode_any a _ W (HEN.out W h.out.bel)).mono (by
    rintro e w' ⟨hb, ⟨_, v, rfl, ho⟩ | ⟨h2, _⟩⟩
    · obtain ⟨g, cb, rfl, _, _, hcb, hrr⟩ := own_cell ho (by have := (bytes_length hr).2; omega)
      exact ⟨g, cb, rfl, h.out.bel.trans (bel_le hb h.out.bel.size), hrr, hcb⟩
    · rw [hr] at h2; cases h2)
  have HCUT : ∀ W g k cb, Hid (Below w.heap.size w W) → Hid (W.rangeAt g 0 (ints .u8 (bytes a))) → Hid (k < (bytes a).length ∧ k ≤ cb) → Calls Try.prog 15 #[.slice (some ⟨g, 0, none⟩) k cb] W fun e w' => e = .returned (.tuple #[.agg #[.int .i64 0, .int .i64 0, .int .i64 0, .slice none 0 0, .slice none 0 0, .int .i64 0, .int .i64 0, .int .i64 0, .slice none 0 0], .int .i64 10]) ∧ Hid (Below W.heap.size W w') ∧ Hid (Below w.heap.size w w') := fun W g k cb h1 h2 h3 => by
    have hsr : Src W (.slice (some ⟨g, 0, none⟩) k cb) ((bytes a).take k) := Src.row (fun x hx => hsb x (List.mem_of_mem_take hx)) (by rw [List.length_take]; have := h3.out; omega) (range_take h2.out k) (by rw [List.length_take]; have := h3.out; omega)
    refine (Decode_any _ _ W hsr (by rw [List.length_take]; have := (bytes_length hr).1; omega)).mono ?_
    rintro e w' ⟨hb, ⟨E, v, hd, _⟩ | ⟨_, rfl⟩⟩
    · rw [dec_cut false hr hA.small h3.out.1] at hd
      cases hd
    · exact ⟨rfl, hb, h1.out.trans (bel_le hb h1.out.size)⟩
  have HMORE : ∀ W v, Hid (Below w.heap.size w W) → Hid (Src W v (bytes a ++ lm)) → Calls Try.prog 15 #[v] W fun e w' => ∃ i0 i1 i2 p3 l3 c3 p4 l4 c4 i5 i6 i7 p8 l8 c8 er, e = .returned (.tuple #[.agg #[.int .i64 i0, .int .i64 i1, .int .i64 i2, .slice p3 l3 c3, .slice p4 l4 c4, .int .i64 i5, .int .i64 i6, .int .i64 i7, .slice p8 l8 c8], .int .i64 er]) ∧ Hid ((mn = 0 → er = 0) ∧ (mn ≠ 0 → er = 10)) ∧ Hid (∀ o, Below w.heap.size w (w'.alloc o)) := fun W v h1 h2 => by
    refine (Decode_any _ _ W h2.out (by rw [List.length_append]; have := (bytes_length hr).1; omega)).mono ?_
    rintro e w' ⟨hb, ⟨E, v, hd, rfl, hn⟩ | ⟨hd, rfl⟩⟩
    · obtain ⟨xp, xc, yp, yc, zq, zc, rfl, -⟩ := hn.is
      have hbw : Below w.heap.size w w' := h1.out.trans (bel_le hb h1.out.size)
      refine ⟨_, _, _, _, _, _, _, _, _, _, _, _, _, _, _, 0, rfl, ⟨fun _ => rfl, fun h => ?_⟩, fun o => hbw.alloc hbw.size o⟩
      rw [dec_more false hr (fun e => h (by rw [← hlm, e]; rfl))] at hd
      cases hd
    · have hbw : Below w.heap.size w w' := h1.out.trans (bel_le hb h1.out.size)
      refine ⟨_, _, _, _, _, _, _, _, _, _, _, _, _, _, _, 10, rfl, ⟨fun h => ?_, fun _ => rfl⟩, fun o => hbw.alloc hbw.size o⟩
      have : lm = [] := List.eq_nil_of_length_eq_zero (by omega)
      rw [this, List.append_nil, dec_own false hr] at hd
      cases hd
  have HSM : Hid (Old w.heap.size w (.slice ma mn mc) lm) := Old.of hsm
  have HLM : Hid (lm.length = mn) := hlm
  have hb1 := (bytes_length hr).1
  have hb2 := (bytes_length hr).2
  have HSB : Hid (∀ x ∈ bytes a, x < 256) := hsb
  clear hA HEN hsb hr hsm hlm
  rw [hs] at HC10
  clear hs
  have hm1 : (mn : Int) ≤ 100 := by omega
  generalize bytes a = bb at *
  obtain ⟨n, HN⟩ : ∃ n, Hid (bb.length = n) := ⟨_, rfl⟩
  rw [HN.out] at HC12 HCUT hb1 hb2
  have hz1 : ¬ (n : Int) = 0 := by omega
  have hz2 : (0 : Int) < (n : Int) := by omega
  have hz3 : ((n : Int) == 0) = false := by simp; omega
  have hz4 : (n : Int) ≤ 1000 := by omega
  obtain ⟨k, HK⟩ : ∃ k : Nat, Hid (cut % (n : Int) = (k : Int)) := ⟨(cut % (n : Int)).toNat, by show _ = _; have := Int.emod_nonneg cut hz1; omega⟩
  have hk1 : cut % (n : Int) = (k : Int) := HK.out
  have hk2 : cut.tmod (n : Int) = (k : Int) := by rw [Int.tmod_eq_emod_of_nonneg hc]; exact HK.out
  have hk3 : (k : Int) < (n : Int) := by rw [← hk1]; exact Int.emod_lt_of_pos cut hz2
  have HKN : Hid (k < n) := by show _ < _; omega
  clear HK
  obtain ⟨a1, a2, a3, a4, a5, a6, a7, a8, a9⟩ := a
  simp only [EnV] at HC9 HC10 HC12 HS0 ⊢
  generalize a4.length = n4 at *
  generalize a5.length = n5 at *
  generalize a9.length = n9 at *
  go_enter Try.func6, Try.ntmps6
  go_wp2_with (first | (go_at_call 9; refine (HC9 _ HS0).mono ?_; rintro e w1 ⟨rfl, S1, d0, d1, d2, d3, d4, d5, d6, d7, d8⟩) | (go_at_call 10; refine (HC10 _ S1).mono ?_; rintro e w2 ⟨rfl, S2, e0, e1, e2, e3, e4, e5, e6, e7, e8⟩) | (go_at_call 12; refine (HC12 _ S2).mono ?_; rintro e w3 ⟨g, cb, rfl, B3, R3, hcb⟩; have hk4 : (k : Int) ≤ (cb : Int) := (by omega)))
  clear HC9 HC10 HC12 HS0 S1 S2 d0 d1 d2 d3 d4 d5 d6 d7 d8 e0 e1 e2 e3 e4 e5 e6 e7 e8 hk1 hk2
  refine (HCUT _ _ _ _ B3 R3 ⟨HKN.out, Nat.le_trans (Nat.le_of_lt HKN.out) hcb⟩).mono ?_
  rintro e w4 ⟨rfl, b4, B4⟩
  have HS4 : Hid (Src w4 (.slice (some ⟨g, 0, none⟩) n cb) bb) := Src.below (Src.row HSB.out (by rw [HN.out]; exact hcb) R3.out HN.out) b4.out
  clear b4 B3 R3 hk3 hk4 HCUT
  go_wp2_with (first | with_reducible (refine stop_builtin .append ?_))
  refine Stop.go ?_
  obtain ⟨w5, HW5⟩ : ∃ w5, Hid (w4.alloc (.cells #[.int .i64 0, .int .i64 0, .int .i64 0, .slice none 0 0, .slice none 0 0, .int .i64 0, .int .i64 0, .int .i64 0, .slice none 0 0] 25) = w5) := ⟨_, rfl⟩
  rw [HW5.out]
  have B5 : Hid (Below w.heap.size w w5) := by show Below _ _ _; rw [← HW5.out]; exact B4.out.alloc B4.out.size _
  have HS5 : Hid (Src w5 (.slice (some ⟨g, 0, none⟩) n cb) bb) := by show Src _ _ _; rw [← HW5.out]; exact HS4.out.below (bel_alloc (Nat.le_refl _) _)
  have HSZ : w4.heap.size + 1 = w5.heap.size := by rw [← HW5.out]; simp
  rw [HSZ]
  clear HW5 B4 HS4 HSZ
  have hs6 : Src (w5.alloc (.cells #[] 5)) (.slice (some ⟨g, 0, none⟩) n cb) bb := HS5.out.below (bel_alloc (Nat.le_refl _) _)
  refine law_append_grow w5.heap.size (.slice (some ⟨w5.heap.size, 0, none⟩) 0 0) 0 [] _ bb rfl rfl (own_built w5) hs6 (by rw [HN.out]; omega) (by simp) ?_
  intro v6 w6 h6 g6
  have HV6 : Hid (w6.ownsRow w5.heap.size 5 1 v6 n (ints .u8 bb)) := by
    rw [Nat.zero_add, HN.out] at h6
    exact h6
  have HB6 : Hid (Below w5.heap.size w5 w6) := (bel_alloc (Nat.le_refl _) _).trans (g6.below (own_built w5) (by simp))
  clear h6 g6 hs6 HS5
  go_wp2_with (first | with_reducible (refine stop_builtin .append ?_))
  refine Stop.go ?_
  have hs7 : Src w6 (.slice ma mn mc) lm := (HSM.out.keep (B5.out.trans (bel_le HB6.out B5.out.size))).1
  refine law_append_grow w5.heap.size v6 n bb _ lm rfl rfl HV6.out hs7 (by rw [HLM.out]; omega) HB6.out.size ?_
  intro v7 w7 h7 g7
  have b7 : Below w5.heap.size w5 w7 := HB6.out.trans (g7.below HV6.out HB6.out.size)
  have B7 : Hid (Below w.heap.size w w7) := B5.out.trans (bel_le b7 B5.out.size)
  have HS7 : Hid (Src w7 v7 (bb ++ lm)) := Src.own (fun x hx => by
    rcases List.mem_append.1 hx with hx | hx
    · exact HSB.out x hx
    · exact HSM.out.1.small x hx) h7
  obtain ⟨q7, c7, rfl⟩ := own_slice h7
  clear h7 g7 b7 hs7 HV6 HB6 B5
  by_cases hm0 : mn = 0
  · subst hm0
    go_wp2_with (first | (go_at_call 15; refine (HMORE _ _ B7 HS7).mono ?_; rintro e w8 ⟨i0, i1, i2, p3, l3, c3, p4, l4, c4, i5, i6, i7, p8, l8, c8, er, rfl, HER, B8⟩; obtain rfl := HER.out.1 rfl))
    go_ret
    exact ⟨rfl, B8.out _⟩
  · have hm4 : ((mn : Int) == 0) = false := by simp; omega
    go_wp2_with (first | (go_at_call 15; refine (HMORE _ _ B7 HS7).mono ?_; rintro e w8 ⟨i0, i1, i2, p3, l3, c3, p4, l4, c4, i5, i6, i7, p8, l8, c8, er, rfl, HER, B8⟩; obtain rfl := HER.out.2 hm0))
    go_ret
    exact ⟨rfl, B8.out _⟩
theorem cuts_any (a : En) (va : Value) (cut : Int) (ma : Option Addr) (mn mc : Nat) (w : World) (ha : EnIs w va a) (hrow : RowIs w ma mn mc) : Calls Try.prog 6 #[va, .int .i64 cut, .slice ma mn mc] w fun e w' => e = .returned (.bool true) ∧ Below w.heap.size w w' := by
  cases hs : small a with
  | false => exact cuts_e1 a va cut ma mn mc w ha hs
  | true =>
    by_cases hc : cut < 0
    · exact cuts_e2 a va cut ma mn mc w ha hs hc
    · by_cases hm : 100 < mn
      · exact cuts_e3 a va cut ma mn mc w ha hs (by omega) hm hrow.max
      · cases hr : right a with
        | false => exact cuts_e4 a va cut ma mn mc w ha hs (by omega) (by omega) hr
        | true =>
          obtain ⟨lm, hlm, hsm⟩ := Src.of hrow
          exact cuts_main a va cut ma mn mc w ha hs (by omega) (by omega) hr lm hlm hsm
end Go.Proofs.Ytiihdpkpgcmioaa.E9
