/- The walk of EntryKinds. -/
import Derived.Test.YtiihdpkpgcmioaaE9Head
import Derived.Test.YtiihdpkpgcmioaaE9Kd0
import Derived.Test.YtiihdpkpgcmioaaE9Kd1
import Derived.Test.YtiihdpkpgcmioaaE9Kd2
import Derived.Test.YtiihdpkpgcmioaaE9Kd3
import Derived.Test.YtiihdpkpgcmioaaE9Kd4
import Derived.Test.YtiihdpkpgcmioaaE9Kd5
namespace Go.Proofs.Ytiihdpkpgcmioaa.E9
open Go.RowKit C8
set_option maxHeartbeats 2000000 in
theorem kinds_e1 (a : En) (va : Value) (which : Int) (w : World) (ha : EnIs w va a) (hs : small a = false) : Calls Try.prog 7 #[va, .int .i64 which] w fun e w' => e = .returned (.bool true) ∧ Below w.heap.size w w' := by
  have hA := ha
  obtain ⟨np, nc, vp, vc, q, c, rfl, -⟩ := ha
  have HEN : Hid (∀ W, Below w.heap.size w W → EnIs W (.agg (EnV a np nc vp vc q c)) a) := fun W h => hA.below h
  have HC9 : ∀ W, Hid (St9 w W w.heap.size (EnV a np nc vp vc q c)) → Calls Try.prog 9 #[] W fun e w' => e = .returned (.bool true) ∧ Hid (St9 w w' w.heap.size (EnV a np nc vp vc q c)) ∧ w'.cell? ⟨w.heap.size, 0, none⟩ = some (.int .i64 a.kind) ∧ w'.cell? ⟨w.heap.size, 1, none⟩ = some (.int .i64 a.writer) ∧ w'.cell? ⟨w.heap.size, 2, none⟩ = some (.int .i64 a.seq) ∧ w'.cell? ⟨w.heap.size, 3, none⟩ = some (.slice np a.name.length nc) ∧ w'.cell? ⟨w.heap.size, 4, none⟩ = some (.slice vp a.value.length vc) ∧ w'.cell? ⟨w.heap.size, 5, none⟩ = some (.int .i64 a.who) ∧ w'.cell? ⟨w.heap.size, 6, none⟩ = some (.int .i64 a.rights) ∧ w'.cell? ⟨w.heap.size, 7, none⟩ = some (.int .i64 a.epoch) ∧ w'.cell? ⟨w.heap.size, 8, none⟩ = some (.slice q a.wraps.length c) := fun W h => (anchor_any W).mono (by rintro e w' ⟨rfl, hb⟩; exact ⟨rfl, h.out.step hb, (h.out.step hb).cells⟩)
  have HC10 : ∀ W, Hid (St9 w W w.heap.size (EnV a np nc vp vc q c)) → Calls Try.prog 10 #[.agg (EnV a np nc vp vc q c)] W fun e w' => e = .returned (.bool (small a)) ∧ Hid (St9 w w' w.heap.size (EnV a np nc vp vc q c)) ∧ w'.cell? ⟨w.heap.size, 0, none⟩ = some (.int .i64 a.kind) ∧ w'.cell? ⟨w.heap.size, 1, none⟩ = some (.int .i64 a.writer) ∧ w'.cell? ⟨w.heap.size, 2, none⟩ = some (.int .i64 a.seq) ∧ w'.cell? ⟨w.heap.size, 3, none⟩ = some (.slice np a.name.length nc) ∧ w'.cell? ⟨w.heap.size, 4, none⟩ = some (.slice vp a.value.length vc) ∧ w'.cell? ⟨w.heap.size, 5, none⟩ = some (.int .i64 a.who) ∧ w'.cell? ⟨w.heap.size, 6, none⟩ = some (.int .i64 a.rights) ∧ w'.cell? ⟨w.heap.size, 7, none⟩ = some (.int .i64 a.epoch) ∧ w'.cell? ⟨w.heap.size, 8, none⟩ = some (.slice q a.wraps.length c) := fun W h => (small_any a _ W (HEN.out W h.out.bel)).mono (by rintro e w' ⟨rfl, hb⟩; exact ⟨rfl, h.out.step hb, (h.out.step hb).cells⟩)
  have HC13 : ∀ W, Hid (St9 w W w.heap.size (EnV a np nc vp vc q c)) → Calls Try.prog 13 #[.agg (EnV a np nc vp vc q c)] W fun e w' => e = .returned (.bool (right a)) ∧ Hid (St9 w w' w.heap.size (EnV a np nc vp vc q c)) ∧ ¬ w.heap.size = w'.heap.size ∧ w'.cell? ⟨w.heap.size, 0, none⟩ = some (.int .i64 a.kind) ∧ w'.cell? ⟨w.heap.size, 1, none⟩ = some (.int .i64 a.writer) ∧ w'.cell? ⟨w.heap.size, 2, none⟩ = some (.int .i64 a.seq) ∧ w'.cell? ⟨w.heap.size, 3, none⟩ = some (.slice np a.name.length nc) ∧ w'.cell? ⟨w.heap.size, 4, none⟩ = some (.slice vp a.value.length vc) ∧ w'.cell? ⟨w.heap.size, 5, none⟩ = some (.int .i64 a.who) ∧ w'.cell? ⟨w.heap.size, 6, none⟩ = some (.int .i64 a.rights) ∧ w'.cell? ⟨w.heap.size, 7, none⟩ = some (.int .i64 a.epoch) ∧ w'.cell? ⟨w.heap.size, 8, none⟩ = some (.slice q a.wraps.length c) := fun W h => (Right_any a _ W (HEN.out W h.out.bel)).mono (by rintro e w' ⟨rfl, hb⟩; exact ⟨rfl, h.out.step hb, (by have := (Array.getElem?_eq_some_iff.1 (h.out.step hb).box).1; omega), (h.out.step hb).cells⟩)
  have HS0 : Hid (St9 w (w.alloc (.cells (EnV a np nc vp vc q c) 25)) w.heap.size (EnV a np nc vp vc q c)) := St9.start w _
  clear hA HEN
  rw [hs] at HC10
  clear hs
  obtain ⟨a1, a2, a3, a4, a5, a6, a7, a8, a9⟩ := a
  simp only [EnV] at HC9 HC10 HC13 HS0 ⊢
  generalize a4.length = n4 at *
  generalize a5.length = n5 at *
  generalize a9.length = n9 at *
  go_enter Try.func7, Try.ntmps7
  go_wp2_with (first | (go_at_call 9; refine (HC9 _ HS0).mono ?_; rintro e w1 ⟨rfl, S1, d0, d1, d2, d3, d4, d5, d6, d7, d8⟩) | (go_at_call 10; refine (HC10 _ S1).mono ?_; rintro e w2 ⟨rfl, S2, e0, e1, e2, e3, e4, e5, e6, e7, e8⟩))
  go_ret
  exact ⟨rfl, S2.out.bel⟩
set_option maxHeartbeats 2000000 in
theorem kinds_e2 (a : En) (va : Value) (which : Int) (w : World) (ha : EnIs w va a) (hs : small a = true) (hr : right a = false) : Calls Try.prog 7 #[va, .int .i64 which] w fun e w' => e = .returned (.bool true) ∧ Below w.heap.size w w' := by
  have hA := ha
  obtain ⟨np, nc, vp, vc, q, c, rfl, -⟩ := ha
  have HEN : Hid (∀ W, Below w.heap.size w W → EnIs W (.agg (EnV a np nc vp vc q c)) a) := fun W h => hA.below h
  have HC9 : ∀ W, Hid (St9 w W w.heap.size (EnV a np nc vp vc q c)) → Calls Try.prog 9 #[] W fun e w' => e = .returned (.bool true) ∧ Hid (St9 w w' w.heap.size (EnV a np nc vp vc q c)) ∧ w'.cell? ⟨w.heap.size, 0, none⟩ = some (.int .i64 a.kind) ∧ w'.cell? ⟨w.heap.size, 1, none⟩ = some (.int .i64 a.writer) ∧ w'.cell? ⟨w.heap.size, 2, none⟩ = some (.int .i64 a.seq) ∧ w'.cell? ⟨w.heap.size, 3, none⟩ = some (.slice np a.name.length nc) ∧ w'.cell? ⟨w.heap.size, 4, none⟩ = some (.slice vp a.value.length vc) ∧ w'.cell? ⟨w.heap.size, 5, none⟩ = some (.int .i64 a.who) ∧ w'.cell? ⟨w.heap.size, 6, none⟩ = some (.int .i64 a.rights) ∧ w'.cell? ⟨w.heap.size, 7, none⟩ = some (.int .i64 a.epoch) ∧ w'.cell? ⟨w.heap.size, 8, none⟩ = some (.slice q a.wraps.length c) := fun W h => (anchor_any W).mono (by rintro e w' ⟨rfl, hb⟩; exact ⟨rfl, h.out.step hb, (h.out.step hb).cells⟩)
  have HC10 : ∀ W, Hid (St9 w W w.heap.size (EnV a np nc vp vc q c)) → Calls Try.prog 10 #[.agg (EnV a np nc vp vc q c)] W fun e w' => e = .returned (.bool (small a)) ∧ Hid (St9 w w' w.heap.size (EnV a np nc vp vc q c)) ∧ w'.cell? ⟨w.heap.size, 0, none⟩ = some (.int .i64 a.kind) ∧ w'.cell? ⟨w.heap.size, 1, none⟩ = some (.int .i64 a.writer) ∧ w'.cell? ⟨w.heap.size, 2, none⟩ = some (.int .i64 a.seq) ∧ w'.cell? ⟨w.heap.size, 3, none⟩ = some (.slice np a.name.length nc) ∧ w'.cell? ⟨w.heap.size, 4, none⟩ = some (.slice vp a.value.length vc) ∧ w'.cell? ⟨w.heap.size, 5, none⟩ = some (.int .i64 a.who) ∧ w'.cell? ⟨w.heap.size, 6, none⟩ = some (.int .i64 a.rights) ∧ w'.cell? ⟨w.heap.size, 7, none⟩ = some (.int .i64 a.epoch) ∧ w'.cell? ⟨w.heap.size, 8, none⟩ = some (.slice q a.wraps.length c) := fun W h => (small_any a _ W (HEN.out W h.out.bel)).mono (by rintro e w' ⟨rfl, hb⟩; exact ⟨rfl, h.out.step hb, (h.out.step hb).cells⟩)
  have HC13 : ∀ W, Hid (St9 w W w.heap.size (EnV a np nc vp vc q c)) → Calls Try.prog 13 #[.agg (EnV a np nc vp vc q c)] W fun e w' => e = .returned (.bool (right a)) ∧ Hid (St9 w w' w.heap.size (EnV a np nc vp vc q c)) ∧ ¬ w.heap.size = w'.heap.size ∧ w'.cell? ⟨w.heap.size, 0, none⟩ = some (.int .i64 a.kind) ∧ w'.cell? ⟨w.heap.size, 1, none⟩ = some (.int .i64 a.writer) ∧ w'.cell? ⟨w.heap.size, 2, none⟩ = some (.int .i64 a.seq) ∧ w'.cell? ⟨w.heap.size, 3, none⟩ = some (.slice np a.name.length nc) ∧ w'.cell? ⟨w.heap.size, 4, none⟩ = some (.slice vp a.value.length vc) ∧ w'.cell? ⟨w.heap.size, 5, none⟩ = some (.int .i64 a.who) ∧ w'.cell? ⟨w.heap.size, 6, none⟩ = some (.int .i64 a.rights) ∧ w'.cell? ⟨w.heap.size, 7, none⟩ = some (.int .i64 a.epoch) ∧ w'.cell? ⟨w.heap.size, 8, none⟩ = some (.slice q a.wraps.length c) := fun W h => (Right_any a _ W (HEN.out W h.out.bel)).mono (by rintro e w' ⟨rfl, hb⟩; exact ⟨rfl, h.out.step hb, (by have := (Array.getElem?_eq_some_iff.1 (h.out.step hb).box).1; omega), (h.out.step hb).cells⟩)
  have HS0 : Hid (St9 w (w.alloc (.cells (EnV a np nc vp vc q c) 25)) w.heap.size (EnV a np nc vp vc q c)) := St9.start w _
  clear hA HEN
  rw [hs] at HC10
  rw [hr] at HC13
  clear hs hr
  obtain ⟨a1, a2, a3, a4, a5, a6, a7, a8, a9⟩ := a
  simp only [EnV] at HC9 HC10 HC13 HS0 ⊢
  generalize a4.length = n4 at *
  generalize a5.length = n5 at *
  generalize a9.length = n9 at *
  go_enter Try.func7, Try.ntmps7
  go_wp2_with (first | (go_at_call 9; refine (HC9 _ HS0).mono ?_; rintro e w1 ⟨rfl, S1, d0, d1, d2, d3, d4, d5, d6, d7, d8⟩) | (go_at_call 10; refine (HC10 _ S1).mono ?_; rintro e w2 ⟨rfl, S2, e0, e1, e2, e3, e4, e5, e6, e7, e8⟩) | (go_at_call 13; refine (HC13 _ S2).mono ?_; rintro e w3 ⟨rfl, S3, hne, h0, h1, h2, h3, h4, h5, h6, h7, h8⟩))
  go_ret
  exact ⟨rfl, S3.out.bel⟩
set_option maxHeartbeats 2000000 in
theorem kinds_e3 (a : En) (va : Value) (which : Int) (w : World) (ha : EnIs w va a) (hs : small a = true) (hr : right a = true) (hw : which < 0) : Calls Try.prog 7 #[va, .int .i64 which] w fun e w' => e = .returned (.bool true) ∧ Below w.heap.size w w' := by
  have hA := ha
  obtain ⟨np, nc, vp, vc, q, c, rfl, -⟩ := ha
  have HEN : Hid (∀ W, Below w.heap.size w W → EnIs W (.agg (EnV a np nc vp vc q c)) a) := fun W h => hA.below h
  have HC9 : ∀ W, Hid (St9 w W w.heap.size (EnV a np nc vp vc q c)) → Calls Try.prog 9 #[] W fun e w' => e = .returned (.bool true) ∧ Hid (St9 w w' w.heap.size (EnV a np nc vp vc q c)) ∧ w'.cell? ⟨w.heap.size, 0, none⟩ = some (.int .i64 a.kind) ∧ w'.cell? ⟨w.heap.size, 1, none⟩ = some (.int .i64 a.writer) ∧ w'.cell? ⟨w.heap.size, 2, none⟩ = some (.int .i64 a.seq) ∧ w'.cell? ⟨w.heap.size, 3, none⟩ = some (.slice np a.name.length nc) ∧ w'.cell? ⟨w.heap.size, 4, none⟩ = some (.slice vp a.value.length vc) ∧ w'.cell? ⟨w.heap.size, 5, none⟩ = some (.int .i64 a.who) ∧ w'.cell? ⟨w.heap.size, 6, none⟩ = some (.int .i64 a.rights) ∧ w'.cell? ⟨w.heap.size, 7, none⟩ = some (.int .i64 a.epoch) ∧ w'.cell? ⟨w.heap.size, 8, none⟩ = some (.slice q a.wraps.length c) := fun W h => (anchor_any W).mono (by rintro e w' ⟨rfl, hb⟩; exact ⟨rfl, h.out.step hb, (h.out.step hb).cells⟩)
  have HC10 : ∀ W, Hid (St9 w W w.heap.size (EnV a np nc vp vc q c)) → Calls Try.prog 10 #[.agg (EnV a np nc vp vc q c)] W fun e w' => e = .returned (.bool (small a)) ∧ Hid (St9 w w' w.heap.size (EnV a np nc vp vc q c)) ∧ w'.cell? ⟨w.heap.size, 0, none⟩ = some (.int .i64 a.kind) ∧ w'.cell? ⟨w.heap.size, 1, none⟩ = some (.int .i64 a.writer) ∧ w'.cell? ⟨w.heap.size, 2, none⟩ = some (.int .i64 a.seq) ∧ w'.cell? ⟨w.heap.size, 3, none⟩ = some (.slice np a.name.length nc) ∧ w'.cell? ⟨w.heap.size, 4, none⟩ = some (.slice vp a.value.length vc) ∧ w'.cell? ⟨w.heap.size, 5, none⟩ = some (.int .i64 a.who) ∧ w'.cell? ⟨w.heap.size, 6, none⟩ = some (.int .i64 a.rights) ∧ w'.cell? ⟨w.heap.size, 7, none⟩ = some (.int .i64 a.epoch) ∧ w'.cell? ⟨w.heap.size, 8, none⟩ = some (.slice q a.wraps.length c) := fun W h => (small_any a _ W (HEN.out W h.out.bel)).mono (by rintro e w' ⟨rfl, hb⟩; exact ⟨rfl, h.out.step hb, (h.out.step hb).cells⟩)
  have HC13 : ∀ W, Hid (St9 w W w.heap.size (EnV a np nc vp vc q c)) → Calls Try.prog 13 #[.agg (EnV a np nc vp vc q c)] W fun e w' => e = .returned (.bool (right a)) ∧ Hid (St9 w w' w.heap.size (EnV a np nc vp vc q c)) ∧ ¬ w.heap.size = w'.heap.size ∧ w'.cell? ⟨w.heap.size, 0, none⟩ = some (.int .i64 a.kind) ∧ w'.cell? ⟨w.heap.size, 1, none⟩ = some (.int .i64 a.writer) ∧ w'.cell? ⟨w.heap.size, 2, none⟩ = some (.int .i64 a.seq) ∧ w'.cell? ⟨w.heap.size, 3, none⟩ = some (.slice np a.name.length nc) ∧ w'.cell? ⟨w.heap.size, 4, none⟩ = some (.slice vp a.value.length vc) ∧ w'.cell? ⟨w.heap.size, 5, none⟩ = some (.int .i64 a.who) ∧ w'.cell? ⟨w.heap.size, 6, none⟩ = some (.int .i64 a.rights) ∧ w'.cell? ⟨w.heap.size, 7, none⟩ = some (.int .i64 a.epoch) ∧ w'.cell? ⟨w.heap.size, 8, none⟩ = some (.slice q a.wraps.length c) := fun W h => (Right_any a _ W (HEN.out W h.out.bel)).mono (by rintro e w' ⟨rfl, hb⟩; exact ⟨rfl, h.out.step hb, (by have := (Array.getElem?_eq_some_iff.1 (h.out.step hb).box).1; omega), (h.out.step hb).cells⟩)
  have HS0 : Hid (St9 w (w.alloc (.cells (EnV a np nc vp vc q c) 25)) w.heap.size (EnV a np nc vp vc q c)) := St9.start w _
  clear hA HEN
  rw [hs] at HC10
  rw [hr] at HC13
  clear hs hr
  obtain ⟨a1, a2, a3, a4, a5, a6, a7, a8, a9⟩ := a
  simp only [EnV] at HC9 HC10 HC13 HS0 ⊢
  generalize a4.length = n4 at *
  generalize a5.length = n5 at *
  generalize a9.length = n9 at *
  go_enter Try.func7, Try.ntmps7
  go_wp2_with (first | (go_at_call 9; refine (HC9 _ HS0).mono ?_; rintro e w1 ⟨rfl, S1, d0, d1, d2, d3, d4, d5, d6, d7, d8⟩) | (go_at_call 10; refine (HC10 _ S1).mono ?_; rintro e w2 ⟨rfl, S2, e0, e1, e2, e3, e4, e5, e6, e7, e8⟩) | (go_at_call 13; refine (HC13 _ S2).mono ?_; rintro e w3 ⟨rfl, S3, hne, h0, h1, h2, h3, h4, h5, h6, h7, h8⟩))
  go_ret
  exact ⟨rfl, S3.out.bel⟩
set_option maxHeartbeats 2000000 in
theorem kinds_e4 (a : En) (va : Value) (which : Int) (w : World) (ha : EnIs w va a) (hs : small a = true) (hr : right a = true) (hw : 5 < which) : Calls Try.prog 7 #[va, .int .i64 which] w fun e w' => e = .returned (.bool true) ∧ Below w.heap.size w w' := by
  have hA := ha
  obtain ⟨np, nc, vp, vc, q, c, rfl, -⟩ := ha
  have HEN : Hid (∀ W, Below w.heap.size w W → EnIs W (.agg (EnV a np nc vp vc q c)) a) := fun W h => hA.below h
  have HC9 : ∀ W, Hid (St9 w W w.heap.size (EnV a np nc vp vc q c)) → Calls Try.prog 9 #[] W fun e w' => e = .returned (.bool true) ∧ Hid (St9 w w' w.heap.size (EnV a np nc vp vc q c)) ∧ w'.cell? ⟨w.heap.size, 0, none⟩ = some (.int .i64 a.kind) ∧ w'.cell? ⟨w.heap.size, 1, none⟩ = some (.int .i64 a.writer) ∧ w'.cell? ⟨w.heap.size, 2, none⟩ = some (.int .i64 a.seq) ∧ w'.cell? ⟨w.heap.size, 3, none⟩ = some (.slice np a.name.length nc) ∧ w'.cell? ⟨w.heap.size, 4, none⟩ = some (.slice vp a.value.length vc) ∧ w'.cell? ⟨w.heap.size, 5, none⟩ = some (.int .i64 a.who) ∧ w'.cell? ⟨w.heap.size, 6, none⟩ = some (.int .i64 a.rights) ∧ w'.cell? ⟨w.heap.size, 7, none⟩ = some (.int .i64 a.epoch) ∧ w'.cell? ⟨w.heap.size, 8, none⟩ = some (.slice q a.wraps.length c) := fun W h => (anchor_any W).mono (by rintro e w' ⟨rfl, hb⟩; exact ⟨rfl, h.out.step hb, (h.out.step hb).cells⟩)
  have HC10 : ∀ W, Hid (St9 w W w.heap.size (EnV a np nc vp vc q c)) → Calls Try.prog 10 #[.agg (EnV a np nc vp vc q c)] W fun e w' => e = .returned (.bool (small a)) ∧ Hid (St9 w w' w.heap.size (EnV a np nc vp vc q c)) ∧ w'.cell? ⟨w.heap.size, 0, none⟩ = some (.int .i64 a.kind) ∧ w'.cell? ⟨w.heap.size, 1, none⟩ = some (.int .i64 a.writer) ∧ w'.cell? ⟨w.heap.size, 2, none⟩ = some (.int .i64 a.seq) ∧ w'.cell? ⟨w.heap.size, 3, none⟩ = some (.slice np a.name.length nc) ∧ w'.cell? ⟨w.heap.size, 4, none⟩ = some (.slice vp a.value.length vc) ∧ w'.cell? ⟨w.heap.size, 5, none⟩ = some (.int .i64 a.who) ∧ w'.cell? ⟨w.heap.size, 6, none⟩ = some (.int .i64 a.rights) ∧ w'.cell? ⟨w.heap.size, 7, none⟩ = some (.int .i64 a.epoch) ∧ w'.cell? ⟨w.heap.size, 8, none⟩ = some (.slice q a.wraps.length c) := fun W h => (small_any a _ W (HEN.out W h.out.bel)).mono (by rintro e w' ⟨rfl, hb⟩; exact ⟨rfl, h.out.step hb, (h.out.step hb).cells⟩)
  have HC13 : ∀ W, Hid (St9 w W w.heap.size (EnV a np nc vp vc q c)) → Calls Try.prog 13 #[.agg (EnV a np nc vp vc q c)] W fun e w' => e = .returned (.bool (right a)) ∧ Hid (St9 w w' w.heap.size (EnV a np nc vp vc q c)) ∧ ¬ w.heap.size = w'.heap.size ∧ w'.cell? ⟨w.heap.size, 0, none⟩ = some (.int .i64 a.kind) ∧ w'.cell? ⟨w.heap.size, 1, none⟩ = some (.int .i64 a.writer) ∧ w'.cell? ⟨w.heap.size, 2, none⟩ = some (.int .i64 a.seq) ∧ w'.cell? ⟨w.heap.size, 3, none⟩ = some (.slice np a.name.length nc) ∧ w'.cell? ⟨w.heap.size, 4, none⟩ = some (.slice vp a.value.length vc) ∧ w'.cell? ⟨w.heap.size, 5, none⟩ = some (.int .i64 a.who) ∧ w'.cell? ⟨w.heap.size, 6, none⟩ = some (.int .i64 a.rights) ∧ w'.cell? ⟨w.heap.size, 7, none⟩ = some (.int .i64 a.epoch) ∧ w'.cell? ⟨w.heap.size, 8, none⟩ = some (.slice q a.wraps.length c) := fun W h => (Right_any a _ W (HEN.out W h.out.bel)).mono (by rintro e w' ⟨rfl, hb⟩; exact ⟨rfl, h.out.step hb, (by have := (Array.getElem?_eq_some_iff.1 (h.out.step hb).box).1; omega), (h.out.step hb).cells⟩)
  have HS0 : Hid (St9 w (w.alloc (.cells (EnV a np nc vp vc q c) 25)) w.heap.size (EnV a np nc vp vc q c)) := St9.start w _
  clear hA HEN
  rw [hs] at HC10
  rw [hr] at HC13
  clear hs hr
  have hw0 : ¬ which < 0 := by omega
  obtain ⟨a1, a2, a3, a4, a5, a6, a7, a8, a9⟩ := a
  simp only [EnV] at HC9 HC10 HC13 HS0 ⊢
  generalize a4.length = n4 at *
  generalize a5.length = n5 at *
  generalize a9.length = n9 at *
  go_enter Try.func7, Try.ntmps7
  go_wp2_with (first | (go_at_call 9; refine (HC9 _ HS0).mono ?_; rintro e w1 ⟨rfl, S1, d0, d1, d2, d3, d4, d5, d6, d7, d8⟩) | (go_at_call 10; refine (HC10 _ S1).mono ?_; rintro e w2 ⟨rfl, S2, e0, e1, e2, e3, e4, e5, e6, e7, e8⟩) | (go_at_call 13; refine (HC13 _ S2).mono ?_; rintro e w3 ⟨rfl, S3, hne, h0, h1, h2, h3, h4, h5, h6, h7, h8⟩))
  go_ret
  exact ⟨rfl, S3.out.bel⟩
theorem kinds_any (a : En) (va : Value) (which : Int) (w : World) (ha : EnIs w va a) : Calls Try.prog 7 #[va, .int .i64 which] w fun e w' => e = .returned (.bool true) ∧ Below w.heap.size w w' := by
  cases hs : small a with
  | false => exact kinds_e1 a va which w ha hs
  | true =>
    cases hr : right a with
    | false => exact kinds_e2 a va which w ha hs hr
    | true =>
      by_cases h0 : which < 0
      · exact kinds_e3 a va which w ha hs hr h0
      by_cases h5 : 5 < which
      · exact kinds_e4 a va which w ha hs hr h5
      have hx0 := kin0 hr
      have hx1 := kin1 hr
      have hx2 := kin2 hr
      have hx3 := kin3 hr
      have hx4 := kin4 hr
      have hx5 := kin5 hr
      obtain rfl | rfl | rfl | rfl | rfl | rfl : which = 0 ∨ which = 1 ∨ which = 2 ∨ which = 3 ∨ which = 4 ∨ which = 5 := by omega
      · by_cases k : a.kind ≤ 2
        · exact kd0t a va w ha hs hr k (by rw [hx0]; simpa using k)
        · exact kd0f a va w ha hs hr k (by rw [hx0]; simpa using k)
      · by_cases k : a.kind = 1
        · exact kd1t a va w ha hs hr k (by rw [hx1]; simpa using k)
        · exact kd1f a va w ha hs hr k (by rw [hx1]; simpa using k)
      · by_cases k : a.kind = 3
        · exact kd2a a va w ha hs hr k (by rw [hx2]; simp [k])
        · by_cases k4 : a.kind = 4
          · exact kd2b a va w ha hs hr k k4 (by rw [hx2]; simp [k4])
          · exact kd2f a va w ha hs hr k k4 (by rw [hx2]; simp [k, k4])
      · by_cases k : a.kind = 3
        · exact kd3t a va w ha hs hr k (by rw [hx3]; simpa using k)
        · exact kd3f a va w ha hs hr k (by rw [hx3]; simpa using k)
      · by_cases k : a.kind = 5
        · exact kd4t a va w ha hs hr k (by rw [hx4]; simpa using k)
        · exact kd4f a va w ha hs hr k (by rw [hx4]; simpa using k)
      · by_cases k : a.kind = 5
        · exact kd5t a va w ha hs hr k (by rw [hx5]; simpa using k)
        · exact kd5f a va w ha hs hr k (by rw [hx5]; simpa using k)
end Go.Proofs.Ytiihdpkpgcmioaa.E9
