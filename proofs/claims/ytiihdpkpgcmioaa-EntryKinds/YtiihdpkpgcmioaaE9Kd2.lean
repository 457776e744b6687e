/- EntryKinds: the walk where 2 is asked. -/
import Derived.Test.YtiihdpkpgcmioaaE9Head
import Derived.Test.YtiihdpkpgcmioaaE9KinM
import Derived.Lib.SmallJoins
namespace Go.Proofs.Ytiihdpkpgcmioaa.E9
open Go.RowKit C8
set_option maxHeartbeats 4000000 in
theorem kd2a (a : En) (va : Value) (w : World) (ha : EnIs w va a) (hs : small a = true) (hr : right a = true) (k3 : a.kind = 3) (hx : right ⟨a.kind, a.writer, a.seq, a.name, a.value, 1, a.rights, a.epoch, a.wraps⟩ = true) : Calls Try.prog 7 #[va, .int .i64 2] w fun e w' => e = .returned (.bool true) ∧ Below w.heap.size w w' := by
  have hA := ha
  obtain ⟨np, nc, vp, vc, q, c, rfl, hat⟩ := ha
  have HEN : Hid (∀ W, Below w.heap.size w W → EnIs W (.agg (EnV a np nc vp vc q c)) a) := fun W h => hA.below h
  have HC9 : ∀ W, Hid (St9 w W w.heap.size (EnV a np nc vp vc q c)) → Calls Try.prog 9 #[] W fun e w' => e = .returned (.bool true) ∧ Hid (St9 w w' w.heap.size (EnV a np nc vp vc q c)) ∧ w'.cell? ⟨w.heap.size, 0, none⟩ = some (.int .i64 a.kind) ∧ w'.cell? ⟨w.heap.size, 1, none⟩ = some (.int .i64 a.writer) ∧ w'.cell? ⟨w.heap.size, 2, none⟩ = some (.int .i64 a.seq) ∧ w'.cell? ⟨w.heap.size, 3, none⟩ = some (.slice np a.name.length nc) ∧ w'.cell? ⟨w.heap.size, 4, none⟩ = some (.slice vp a.value.length vc) ∧ w'.cell? ⟨w.heap.size, 5, none⟩ = some (.int .i64 a.who) ∧ w'.cell? ⟨w.heap.size, 6, none⟩ = some (.int .i64 a.rights) ∧ w'.cell? ⟨w.heap.size, 7, none⟩ = some (.int .i64 a.epoch) ∧ w'.cell? ⟨w.heap.size, 8, none⟩ = some (.slice q a.wraps.length c) := fun W h => (anchor_any W).mono (by rintro e w' ⟨rfl, hb⟩; exact ⟨rfl, h.out.step hb, (h.out.step hb).cells⟩)
  have HC10 : ∀ W, Hid (St9 w W w.heap.size (EnV a np nc vp vc q c)) → Calls Try.prog 10 #[.agg (EnV a np nc vp vc q c)] W fun e w' => e = .returned (.bool (small a)) ∧ Hid (St9 w w' w.heap.size (EnV a np nc vp vc q c)) ∧ w'.cell? ⟨w.heap.size, 0, none⟩ = some (.int .i64 a.kind) ∧ w'.cell? ⟨w.heap.size, 1, none⟩ = some (.int .i64 a.writer) ∧ w'.cell? ⟨w.heap.size, 2, none⟩ = some (.int .i64 a.seq) ∧ w'.cell? ⟨w.heap.size, 3, none⟩ = some (.slice np a.name.length nc) ∧ w'.cell? ⟨w.heap.size, 4, none⟩ = some (.slice vp a.value.length vc) ∧ w'.cell? ⟨w.heap.size, 5, none⟩ = some (.int .i64 a.who) ∧ w'.cell? ⟨w.heap.size, 6, none⟩ = some (.int .i64 a.rights) ∧ w'.cell? ⟨w.heap.size, 7, none⟩ = some (.int .i64 a.epoch) ∧ w'.cell? ⟨w.heap.size, 8, none⟩ = some (.slice q a.wraps.length c) := fun W h => (small_any a _ W (HEN.out W h.out.bel)).mono (by rintro e w' ⟨rfl, hb⟩; exact ⟨rfl, h.out.step hb, (h.out.step hb).cells⟩)
  have HC13 : ∀ W, Hid (St9 w W w.heap.size (EnV a np nc vp vc q c)) → Calls Try.prog 13 #[.agg (EnV a np nc vp vc q c)] W fun e w' => e = .returned (.bool (right a)) ∧ Hid (St9 w w' w.heap.size (EnV a np nc vp vc q c)) ∧ ¬ w.heap.size = w'.heap.size ∧ w'.cell? ⟨w.heap.size, 0, none⟩ = some (.int .i64 a.kind) ∧ w'.cell? ⟨w.heap.size, 1, none⟩ = some (.int .i64 a.writer) ∧ w'.cell? ⟨w.heap.size, 2, none⟩ = some (.int .i64 a.seq) ∧ w'.cell? ⟨w.heap.size, 3, none⟩ = some (.slice np a.name.length nc) ∧ w'.cell? ⟨w.heap.size, 4, none⟩ = some (.slice vp a.value.length vc) ∧ w'.cell? ⟨w.heap.size, 5, none⟩ = some (.int .i64 a.who) ∧ w'.cell? ⟨w.heap.size, 6, none⟩ = some (.int .i64 a.rights) ∧ w'.cell? ⟨w.heap.size, 7, none⟩ = some (.int .i64 a.epoch) ∧ w'.cell? ⟨w.heap.size, 8, none⟩ = some (.slice q a.wraps.length c) := fun W h => (Right_any a _ W (HEN.out W h.out.bel)).mono (by rintro e w' ⟨rfl, hb⟩; exact ⟨rfl, h.out.step hb, (by have := (Array.getElem?_eq_some_iff.1 (h.out.step hb).box).1; omega), (h.out.step hb).cells⟩)
  have HS0 : Hid (St9 w (w.alloc (.cells (EnV a np nc vp vc q c) 25)) w.heap.size (EnV a np nc vp vc q c)) := St9.start w _
  rw [hs] at HC10
  rw [hr] at HC13
  obtain ⟨E, HEE⟩ : ∃ E : En, Hid (E = ⟨a.kind, a.writer, a.seq, a.name, a.value, 1, a.rights, a.epoch, a.wraps⟩) := ⟨_, rfl⟩
  rw [← HEE.out] at hx
  have HX12 : ∀ W v, Hid (EnIs W v E) → Calls Try.prog 12 #[v] W fun e w' => ∃ bq bn bc, e = .returned (.tuple #[.slice bq bn bc, .int .i64 0]) ∧ Hid (Below W.heap.size W w') := fun W v h => (Encode_any E v W h.out).mono (by
    rintro e w' ⟨hb, ⟨h1, v, rfl, ho⟩ | ⟨h1, rfl⟩⟩
    · obtain ⟨bq, bc, rfl⟩ := own_slice ho; exact ⟨bq, _, bc, rfl, hb⟩
    · rw [hx] at h1; cases h1)
  have HX13 : ∀ W v, Hid (EnIs W v E) → Calls Try.prog 13 #[v] W fun e w' => e = .returned (.bool true) ∧ Hid (Below W.heap.size W w') := fun W v h => (Right_any E v W h.out).mono (by
    rintro e w' ⟨rfl, hb⟩
    exact ⟨by rw [hx], hb⟩)
  have HAT : Hid (∀ W, Below w.heap.size w W → EnAt W a np nc vp vc q) := fun W h => hat.below h
  clear hA HEN hs hr hx hat
  obtain ⟨a1, a2, a3, a4, a5, a6, a7, a8, a9⟩ := a
  simp only [EnV] at HC9 HC10 HC13 HS0 HAT HEE k3 ⊢
  obtain ⟨n4, HN4⟩ : ∃ n, Hid (a4.length = n) := ⟨_, rfl⟩
  obtain ⟨n5, HN5⟩ : ∃ n, Hid (a5.length = n) := ⟨_, rfl⟩
  obtain ⟨n9, HN9⟩ : ∃ n, Hid (a9.length = n) := ⟨_, rfl⟩
  rw [HN4.out, HN5.out, HN9.out] at HC9 HC10 HC13 HS0
  rw [HN4.out, HN5.out, HN9.out]
  have z3 : (a1 == 3) = true := by simp [k3]
  clear k3
  go_enter Try.func7, Try.ntmps7
  go_wp2_with (first | (go_at_call 9; refine (HC9 _ HS0).mono ?_; rintro e w1 ⟨rfl, S1, d0, d1, d2, d3, d4, d5, d6, d7, d8⟩) | (go_at_call 10; refine (HC10 _ S1).mono ?_; rintro e w2 ⟨rfl, S2, e0, e1, e2, e3, e4, e5, e6, e7, e8⟩) | (go_at_call 13; refine (HC13 _ S2).mono ?_; rintro e w3 ⟨rfl, S3, hne, h0, h1, h2, h3, h4, h5, h6, h7, h8⟩))
  have hlt3 : w.heap.size < w3.heap.size := (Array.getElem?_eq_some_iff.1 S3.out.box).1
  have g0 : ∀ o, (w3.alloc o).drew.cell? ⟨w.heap.size, 0, none⟩ = some (.int .i64 a1) := fun o => ((bel_alloc (Nat.le_refl _) o).cell (p := ⟨w.heap.size, 0, none⟩) hlt3).trans h0
  have g1 : ∀ o1 o2, ((w3.alloc o1).alloc o2).drew.cell? ⟨w.heap.size, 0, none⟩ = some (.int .i64 a1) := fun o1 o2 => (((bel_alloc (Nat.le_refl _) o1).trans (bel_alloc (by simp) o2)).drew.cell (p := ⟨w.heap.size, 0, none⟩) hlt3).trans h0
  have hne2 : ¬ w3.heap.size = w.heap.size := fun e => hne e.symm
  go_region
  all_goals
    obtain ⟨Wx, HWX⟩ : ∃ Wx, Hid ((w3.alloc (.cells #[.int .i64 a1, .int .i64 a2, .int .i64 a3, .slice np n4 nc, .slice vp n5 vc, .int .i64 1, .int .i64 a7, .int .i64 a8, .slice q n9 c] 25)).drew = Wx) := ⟨_, rfl⟩
    have HBX : Hid (Below w3.heap.size w3 Wx) := by show Below _ _ _; rw [← HWX.out]; exact (bel_alloc (Nat.le_refl _) _).drew
    have SX : Hid (St9 w Wx w3.heap.size #[.int .i64 a1, .int .i64 a2, .int .i64 a3, .slice np n4 nc, .slice vp n5 vc, .int .i64 1, .int .i64 a7, .int .i64 a8, .slice q n9 c]) := ⟨S3.out.bel.trans (bel_le HBX.out S3.out.bel.size), by rw [← HWX.out]; exact heap_alloc_new w3 _⟩
    have HEX : Hid (EnIs Wx (.agg #[.int .i64 a1, .int .i64 a2, .int .i64 a3, .slice np n4 nc, .slice vp n5 vc, .int .i64 1, .int .i64 a7, .int .i64 a8, .slice q n9 c]) E) := by
      have hat := HAT.out Wx SX.out.bel
      show EnIs _ _ _
      rw [HEE.out]
      exact ⟨np, nc, vp, vc, q, c, by simp [EnV, HN4.out, HN5.out, HN9.out], hat.name, hat.value, hat.wraps, hat.ln, hat.lv, hat.lw⟩
    rw [HWX.out]
    clear HWX HBX HAT HEE g0 g1
    obtain ⟨p0, p1, p2, p3, p4, p5, p6, p7, p8⟩ := SX.out.cells
    go_wp2_with (first | (go_at_call 12; refine (HX12 _ _ HEX).mono ?_; rintro e w4 ⟨bq, bn, bc, rfl, B4⟩; have S4 : Hid (St9 w w4 w3.heap.size #[.int .i64 a1, .int .i64 a2, .int .i64 a3, .slice np n4 nc, .slice vp n5 vc, .int .i64 1, .int .i64 a7, .int .i64 a8, .slice q n9 c]) := SX.out.step B4.out; have E4 : Hid (EnIs w4 (.agg #[.int .i64 a1, .int .i64 a2, .int .i64 a3, .slice np n4 nc, .slice vp n5 vc, .int .i64 1, .int .i64 a7, .int .i64 a8, .slice q n9 c]) E) := HEX.out.below B4.out; obtain ⟨r0, r1, r2, r3, r4, r5, r6, r7, r8⟩ := S4.out.cells) | (go_at_call 13; refine (HX13 _ _ E4).mono ?_; rintro e w5 ⟨rfl, B5⟩))
    go_ret
    exact ⟨rfl, (S4.out.step B5.out).bel⟩
set_option maxHeartbeats 4000000 in
theorem kd2b (a : En) (va : Value) (w : World) (ha : EnIs w va a) (hs : small a = true) (hr : right a = true) (k3 : ¬ a.kind = 3) (k4 : a.kind = 4) (hx : right ⟨a.kind, a.writer, a.seq, a.name, a.value, 1, a.rights, a.epoch, a.wraps⟩ = true) : Calls Try.prog 7 #[va, .int .i64 2] w fun e w' => e = .returned (.bool true) ∧ Below w.heap.size w w' := by
  have hA := ha
  obtain ⟨np, nc, vp, vc, q, c, rfl, hat⟩ := ha
  have HEN : Hid (∀ W, Below w.heap.size w W → EnIs W (.agg (EnV a np nc vp vc q c)) a) := fun W h => hA.below h
  have HC9 : ∀ W, Hid (St9 w W w.heap.size (EnV a np nc vp vc q c)) → Calls Try.prog 9 #[] W fun e w' => e = .returned (.bool true) ∧ Hid (St9 w w' w.heap.size (EnV a np nc vp vc q c)) ∧ w'.cell? ⟨w.heap.size, 0, none⟩ = some (.int .i64 a.kind) ∧ w'.cell? ⟨w.heap.size, 1, none⟩ = some (.int .i64 a.writer) ∧ w'.cell? ⟨w.heap.size, 2, none⟩ = some (.int .i64 a.seq) ∧ w'.cell? ⟨w.heap.size, 3, none⟩ = some (.slice np a.name.length nc) ∧ w'.cell? ⟨w.heap.size, 4, none⟩ = some (.slice vp a.value.length vc) ∧ w'.cell? ⟨w.heap.size, 5, none⟩ = some (.int .i64 a.who) ∧ w'.cell? ⟨w.heap.size, 6, none⟩ = some (.int .i64 a.rights) ∧ w'.cell? ⟨w.heap.size, 7, none⟩ = some (.int .i64 a.epoch) ∧ w'.cell? ⟨w.heap.size, 8, none⟩ = some (.slice q a.wraps.length c) := fun W h => (anchor_any W).mono (by rintro e w' ⟨rfl, hb⟩; exact ⟨rfl, h.out.step hb, (h.out.step hb).cells⟩)
  have HC10 : ∀ W, Hid (St9 w W w.heap.size (EnV a np nc vp vc q c)) → Calls Try.prog 10 #[.agg (EnV a np nc vp vc q c)] W fun e w' => e = .returned (.bool (small a)) ∧ Hid (St9 w w' w.heap.size (EnV a np nc vp vc q c)) ∧ w'.cell? ⟨w.heap.size, 0, none⟩ = some (.int .i64 a.kind) ∧ w'.cell? ⟨w.heap.size, 1, none⟩ = some (.int .i64 a.writer) ∧ w'.cell? ⟨w.heap.size, 2, none⟩ = some (.int .i64 a.seq) ∧ w'.cell? ⟨w.heap.size, 3, none⟩ = some (.slice np a.name.length nc) ∧ w'.cell? ⟨w.heap.size, 4, none⟩ = some (.slice vp a.value.length vc) ∧ w'.cell? ⟨w.heap.size, 5, none⟩ = some (.int .i64 a.who) ∧ w'.cell? ⟨w.heap.size, 6, none⟩ = some (.int .i64 a.rights) ∧ w'.cell? ⟨w.heap.size, 7, none⟩ = some (.int .i64 a.epoch) ∧ w'.cell? ⟨w.heap.size, 8, none⟩ = some (.slice q a.wraps.length c) := fun W h => (small_any a _ W (HEN.out W h.out.bel)).mono (by rintro e w' ⟨rfl, hb⟩; exact ⟨rfl, h.out.step hb, (h.out.step hb).cells⟩)
  have HC13 : ∀ W, Hid (St9 w W w.heap.size (EnV a np nc vp vc q c)) → Calls Try.prog 13 #[.agg (EnV a np nc vp vc q c)] W fun e w' => e = .returned (.bool (right a)) ∧ Hid (St9 w w' w.heap.size (EnV a np nc vp vc q c)) ∧ ¬ w.heap.size = w'.heap.size ∧ w'.cell? ⟨w.heap.size, 0, none⟩ = some (.int .i64 a.kind) ∧ w'.cell? ⟨w.heap.size, 1, none⟩ = some (.int .i64 a.writer) ∧ w'.cell? ⟨w.heap.size, 2, none⟩ = some (.int .i64 a.seq) ∧ w'.cell? ⟨w.heap.size, 3, none⟩ = some (.slice np a.name.length nc) ∧ w'.cell? ⟨w.heap.size, 4, none⟩ = some (.slice vp a.value.length vc) ∧ w'.cell? ⟨w.heap.size, 5, none⟩ = some (.int .i64 a.who) ∧ w'.cell? ⟨w.heap.size, 6, none⟩ = some (.int .i64 a.rights) ∧ w'.cell? ⟨w.heap.size, 7, none⟩ = some (.int .i64 a.epoch) ∧ w'.cell? ⟨w.heap.size, 8, none⟩ = some (.slice q a.wraps.length c) := fun W h => (Right_any a _ W (HEN.out W h.out.bel)).mono (by rintro e w' ⟨rfl, hb⟩; exact ⟨rfl, h.out.step hb, (by have := (Array.getElem?_eq_some_iff.1 (h.out.step hb).box).1; omega), (h.out.step hb).cells⟩)
  have HS0 : Hid (St9 w (w.alloc (.cells (EnV a np nc vp vc q c) 25)) w.heap.size (EnV a np nc vp vc q c)) := St9.start w _
  rw [hs] at HC10
  rw [hr] at HC13
  obtain ⟨E, HEE⟩ : ∃ E : En, Hid (E = ⟨a.kind, a.writer, a.seq, a.name, a.value, 1, a.rights, a.epoch, a.wraps⟩) := ⟨_, rfl⟩
  rw [← HEE.out] at hx
  have HX12 : ∀ W v, Hid (EnIs W v E) → Calls Try.prog 12 #[v] W fun e w' => ∃ bq bn bc, e = .returned (.tuple #[.slice bq bn bc, .int .i64 0]) ∧ Hid (Below W.heap.size W w') := fun W v h => (Encode_any E v W h.out).mono (by
    rintro e w' ⟨hb, ⟨h1, v, rfl, ho⟩ | ⟨h1, rfl⟩⟩
    · obtain ⟨bq, bc, rfl⟩ := own_slice ho; exact ⟨bq, _, bc, rfl, hb⟩
    · rw [hx] at h1; cases h1)
  have HX13 : ∀ W v, Hid (EnIs W v E) → Calls Try.prog 13 #[v] W fun e w' => e = .returned (.bool true) ∧ Hid (Below W.heap.size W w') := fun W v h => (Right_any E v W h.out).mono (by
    rintro e w' ⟨rfl, hb⟩
    exact ⟨by rw [hx], hb⟩)
  have HAT : Hid (∀ W, Below w.heap.size w W → EnAt W a np nc vp vc q) := fun W h => hat.below h
  clear hA HEN hs hr hx hat
  obtain ⟨a1, a2, a3, a4, a5, a6, a7, a8, a9⟩ := a
  simp only [EnV] at HC9 HC10 HC13 HS0 HAT HEE k3 k4 ⊢
  obtain ⟨n4, HN4⟩ : ∃ n, Hid (a4.length = n) := ⟨_, rfl⟩
  obtain ⟨n5, HN5⟩ : ∃ n, Hid (a5.length = n) := ⟨_, rfl⟩
  obtain ⟨n9, HN9⟩ : ∃ n, Hid (a9.length = n) := ⟨_, rfl⟩
  rw [HN4.out, HN5.out, HN9.out] at HC9 HC10 HC13 HS0
  rw [HN4.out, HN5.out, HN9.out]
  have z3 : (a1 == 3) = false := by simp [k3]
  have z4 : (a1 == 4) = true := by simp [k4]
  clear k3 k4
  go_enter Try.func7, Try.ntmps7
  go_wp2_with (first | (go_at_call 9; refine (HC9 _ HS0).mono ?_; rintro e w1 ⟨rfl, S1, d0, d1, d2, d3, d4, d5, d6, d7, d8⟩) | (go_at_call 10; refine (HC10 _ S1).mono ?_; rintro e w2 ⟨rfl, S2, e0, e1, e2, e3, e4, e5, e6, e7, e8⟩) | (go_at_call 13; refine (HC13 _ S2).mono ?_; rintro e w3 ⟨rfl, S3, hne, h0, h1, h2, h3, h4, h5, h6, h7, h8⟩))
  have hlt3 : w.heap.size < w3.heap.size := (Array.getElem?_eq_some_iff.1 S3.out.box).1
  have g0 : ∀ o, (w3.alloc o).drew.cell? ⟨w.heap.size, 0, none⟩ = some (.int .i64 a1) := fun o => ((bel_alloc (Nat.le_refl _) o).cell (p := ⟨w.heap.size, 0, none⟩) hlt3).trans h0
  have g1 : ∀ o1 o2, ((w3.alloc o1).alloc o2).drew.cell? ⟨w.heap.size, 0, none⟩ = some (.int .i64 a1) := fun o1 o2 => (((bel_alloc (Nat.le_refl _) o1).trans (bel_alloc (by simp) o2)).drew.cell (p := ⟨w.heap.size, 0, none⟩) hlt3).trans h0
  have hne2 : ¬ w3.heap.size = w.heap.size := fun e => hne e.symm
  go_region
  all_goals
    obtain ⟨Wx, HWX⟩ : ∃ Wx, Hid ((w3.alloc (.cells #[.int .i64 a1, .int .i64 a2, .int .i64 a3, .slice np n4 nc, .slice vp n5 vc, .int .i64 1, .int .i64 a7, .int .i64 a8, .slice q n9 c] 25)).drew = Wx) := ⟨_, rfl⟩
    have HBX : Hid (Below w3.heap.size w3 Wx) := by show Below _ _ _; rw [← HWX.out]; exact (bel_alloc (Nat.le_refl _) _).drew
    have SX : Hid (St9 w Wx w3.heap.size #[.int .i64 a1, .int .i64 a2, .int .i64 a3, .slice np n4 nc, .slice vp n5 vc, .int .i64 1, .int .i64 a7, .int .i64 a8, .slice q n9 c]) := ⟨S3.out.bel.trans (bel_le HBX.out S3.out.bel.size), by rw [← HWX.out]; exact heap_alloc_new w3 _⟩
    have HEX : Hid (EnIs Wx (.agg #[.int .i64 a1, .int .i64 a2, .int .i64 a3, .slice np n4 nc, .slice vp n5 vc, .int .i64 1, .int .i64 a7, .int .i64 a8, .slice q n9 c]) E) := by
      have hat := HAT.out Wx SX.out.bel
      show EnIs _ _ _
      rw [HEE.out]
      exact ⟨np, nc, vp, vc, q, c, by simp [EnV, HN4.out, HN5.out, HN9.out], hat.name, hat.value, hat.wraps, hat.ln, hat.lv, hat.lw⟩
    rw [HWX.out]
    clear HWX HBX HAT HEE g0 g1
    obtain ⟨p0, p1, p2, p3, p4, p5, p6, p7, p8⟩ := SX.out.cells
    go_wp2_with (first | (go_at_call 12; refine (HX12 _ _ HEX).mono ?_; rintro e w4 ⟨bq, bn, bc, rfl, B4⟩; have S4 : Hid (St9 w w4 w3.heap.size #[.int .i64 a1, .int .i64 a2, .int .i64 a3, .slice np n4 nc, .slice vp n5 vc, .int .i64 1, .int .i64 a7, .int .i64 a8, .slice q n9 c]) := SX.out.step B4.out; have E4 : Hid (EnIs w4 (.agg #[.int .i64 a1, .int .i64 a2, .int .i64 a3, .slice np n4 nc, .slice vp n5 vc, .int .i64 1, .int .i64 a7, .int .i64 a8, .slice q n9 c]) E) := HEX.out.below B4.out; obtain ⟨r0, r1, r2, r3, r4, r5, r6, r7, r8⟩ := S4.out.cells) | (go_at_call 13; refine (HX13 _ _ E4).mono ?_; rintro e w5 ⟨rfl, B5⟩))
    go_ret
    exact ⟨rfl, (S4.out.step B5.out).bel⟩
set_option maxHeartbeats 4000000 in
theorem kd2f (a : En) (va : Value) (w : World) (ha : EnIs w va a) (hs : small a = true) (hr : right a = true) (k3 : ¬ a.kind = 3) (k4 : ¬ a.kind = 4) (hx : right ⟨a.kind, a.writer, a.seq, a.name, a.value, 1, a.rights, a.epoch, a.wraps⟩ = false) : Calls Try.prog 7 #[va, .int .i64 2] w fun e w' => e = .returned (.bool true) ∧ Below w.heap.size w w' := by
  have hA := ha
  obtain ⟨np, nc, vp, vc, q, c, rfl, hat⟩ := ha
  have HEN : Hid (∀ W, Below w.heap.size w W → EnIs W (.agg (EnV a np nc vp vc q c)) a) := fun W h => hA.below h
  have HC9 : ∀ W, Hid (St9 w W w.heap.size (EnV a np nc vp vc q c)) → Calls Try.prog 9 #[] W fun e w' => e = .returned (.bool true) ∧ Hid (St9 w w' w.heap.size (EnV a np nc vp vc q c)) ∧ w'.cell? ⟨w.heap.size, 0, none⟩ = some (.int .i64 a.kind) ∧ w'.cell? ⟨w.heap.size, 1, none⟩ = some (.int .i64 a.writer) ∧ w'.cell? ⟨w.heap.size, 2, none⟩ = some (.int .i64 a.seq) ∧ w'.cell? ⟨w.heap.size, 3, none⟩ = some (.slice np a.name.length nc) ∧ w'.cell? ⟨w.heap.size, 4, none⟩ = some (.slice vp a.value.length vc) ∧ w'.cell? ⟨w.heap.size, 5, none⟩ = some (.int .i64 a.who) ∧ w'.cell? ⟨w.heap.size, 6, none⟩ = some (.int .i64 a.rights) ∧ w'.cell? ⟨w.heap.size, 7, none⟩ = some (.int .i64 a.epoch) ∧ w'.cell? ⟨w.heap.size, 8, none⟩ = some (.slice q a.wraps.length c) := fun W h => (anchor_any W).mono (by rintro e w' ⟨rfl, hb⟩; exact ⟨rfl, h.out.step hb, (h.out.step hb).cells⟩)
  have HC10 : ∀ W, Hid (St9 w W w.heap.size (EnV a np nc vp vc q c)) → Calls Try.prog 10 #[.agg (EnV a np nc vp vc q c)] W fun e w' => e = .returned (.bool (small a)) ∧ Hid (St9 w w' w.heap.size (EnV a np nc vp vc q c)) ∧ w'.cell? ⟨w.heap.size, 0, none⟩ = some (.int .i64 a.kind) ∧ w'.cell? ⟨w.heap.size, 1, none⟩ = some (.int .i64 a.writer) ∧ w'.cell? ⟨w.heap.size, 2, none⟩ = some (.int .i64 a.seq) ∧ w'.cell? ⟨w.heap.size, 3, none⟩ = some (.slice np a.name.length nc) ∧ w'.cell? ⟨w.heap.size, 4, none⟩ = some (.slice vp a.value.length vc) ∧ w'.cell? ⟨w.heap.size, 5, none⟩ = some (.int .i64 a.who) ∧ w'.cell? ⟨w.heap.size, 6, none⟩ = some (.int .i64 a.rights) ∧ w'.cell? ⟨w.heap.size, 7, none⟩ = some (.int .i64 a.epoch) ∧ w'.cell? ⟨w.heap.size, 8, none⟩ = some (.slice q a.wraps.length c) := fun W h => (small_any a _ W (HEN.out W h.out.bel)).mono (by rintro e w' ⟨rfl, hb⟩; exact ⟨rfl, h.out.step hb, (h.out.step hb).cells⟩)
  have HC13 : ∀ W, Hid (St9 w W w.heap.size (EnV a np nc vp vc q c)) → Calls Try.prog 13 #[.agg (EnV a np nc vp vc q c)] W fun e w' => e = .returned (.bool (right a)) ∧ Hid (St9 w w' w.heap.size (EnV a np nc vp vc q c)) ∧ ¬ w.heap.size = w'.heap.size ∧ w'.cell? ⟨w.heap.size, 0, none⟩ = some (.int .i64 a.kind) ∧ w'.cell? ⟨w.heap.size, 1, none⟩ = some (.int .i64 a.writer) ∧ w'.cell? ⟨w.heap.size, 2, none⟩ = some (.int .i64 a.seq) ∧ w'.cell? ⟨w.heap.size, 3, none⟩ = some (.slice np a.name.length nc) ∧ w'.cell? ⟨w.heap.size, 4, none⟩ = some (.slice vp a.value.length vc) ∧ w'.cell? ⟨w.heap.size, 5, none⟩ = some (.int .i64 a.who) ∧ w'.cell? ⟨w.heap.size, 6, none⟩ = some (.int .i64 a.rights) ∧ w'.cell? ⟨w.heap.size, 7, none⟩ = some (.int .i64 a.epoch) ∧ w'.cell? ⟨w.heap.size, 8, none⟩ = some (.slice q a.wraps.length c) := fun W h => (Right_any a _ W (HEN.out W h.out.bel)).mono (by rintro e w' ⟨rfl, hb⟩; exact ⟨rfl, h.out.step hb, (by have := (Array.getElem?_eq_some_iff.1 (h.out.step hb).box).1; omega), (h.out.step hb).cells⟩)
  have HS0 : Hid (St9 w (w.alloc (.cells (EnV a np nc vp vc q c) 25)) w.heap.size (EnV a np nc vp vc q c)) := St9.start w _
  rw [hs] at HC10
  rw [hr] at HC13
  obtain ⟨E, HEE⟩ : ∃ E : En, Hid (E = ⟨a.kind, a.writer, a.seq, a.name, a.value, 1, a.rights, a.epoch, a.wraps⟩) := ⟨_, rfl⟩
  rw [← HEE.out] at hx
  have HX12 : ∀ W v, Hid (EnIs W v E) → Calls Try.prog 12 #[v] W fun e w' => ∃ bq bn bc, e = .returned (.tuple #[.slice bq bn bc, .int .i64 10]) ∧ Hid (Below W.heap.size W w') := fun W v h => (Encode_any E v W h.out).mono (by
    rintro e w' ⟨hb, ⟨h1, v, rfl, ho⟩ | ⟨h1, rfl⟩⟩
    · rw [hx] at h1; cases h1
    · exact ⟨none, 0, 0, rfl, hb⟩)
  have HX13 : ∀ W v, Hid (EnIs W v E) → Calls Try.prog 13 #[v] W fun e w' => e = .returned (.bool false) ∧ Hid (Below W.heap.size W w') := fun W v h => (Right_any E v W h.out).mono (by
    rintro e w' ⟨rfl, hb⟩
    exact ⟨by rw [hx], hb⟩)
  have HAT : Hid (∀ W, Below w.heap.size w W → EnAt W a np nc vp vc q) := fun W h => hat.below h
  clear hA HEN hs hr hx hat
  obtain ⟨a1, a2, a3, a4, a5, a6, a7, a8, a9⟩ := a
  simp only [EnV] at HC9 HC10 HC13 HS0 HAT HEE k3 k4 ⊢
  obtain ⟨n4, HN4⟩ : ∃ n, Hid (a4.length = n) := ⟨_, rfl⟩
  obtain ⟨n5, HN5⟩ : ∃ n, Hid (a5.length = n) := ⟨_, rfl⟩
  obtain ⟨n9, HN9⟩ : ∃ n, Hid (a9.length = n) := ⟨_, rfl⟩
  rw [HN4.out, HN5.out, HN9.out] at HC9 HC10 HC13 HS0
  rw [HN4.out, HN5.out, HN9.out]
  have z3 : (a1 == 3) = false := by simp [k3]
  have z4 : (a1 == 4) = false := by simp [k4]
  clear k3 k4
  go_enter Try.func7, Try.ntmps7
  go_wp2_with (first | (go_at_call 9; refine (HC9 _ HS0).mono ?_; rintro e w1 ⟨rfl, S1, d0, d1, d2, d3, d4, d5, d6, d7, d8⟩) | (go_at_call 10; refine (HC10 _ S1).mono ?_; rintro e w2 ⟨rfl, S2, e0, e1, e2, e3, e4, e5, e6, e7, e8⟩) | (go_at_call 13; refine (HC13 _ S2).mono ?_; rintro e w3 ⟨rfl, S3, hne, h0, h1, h2, h3, h4, h5, h6, h7, h8⟩))
  have hlt3 : w.heap.size < w3.heap.size := (Array.getElem?_eq_some_iff.1 S3.out.box).1
  have g0 : ∀ o, (w3.alloc o).drew.cell? ⟨w.heap.size, 0, none⟩ = some (.int .i64 a1) := fun o => ((bel_alloc (Nat.le_refl _) o).cell (p := ⟨w.heap.size, 0, none⟩) hlt3).trans h0
  have g1 : ∀ o1 o2, ((w3.alloc o1).alloc o2).drew.cell? ⟨w.heap.size, 0, none⟩ = some (.int .i64 a1) := fun o1 o2 => (((bel_alloc (Nat.le_refl _) o1).trans (bel_alloc (by simp) o2)).drew.cell (p := ⟨w.heap.size, 0, none⟩) hlt3).trans h0
  have hne2 : ¬ w3.heap.size = w.heap.size := fun e => hne e.symm
  go_region
  all_goals
    obtain ⟨Wx, HWX⟩ : ∃ Wx, Hid ((w3.alloc (.cells #[.int .i64 a1, .int .i64 a2, .int .i64 a3, .slice np n4 nc, .slice vp n5 vc, .int .i64 1, .int .i64 a7, .int .i64 a8, .slice q n9 c] 25)).drew = Wx) := ⟨_, rfl⟩
    have HBX : Hid (Below w3.heap.size w3 Wx) := by show Below _ _ _; rw [← HWX.out]; exact (bel_alloc (Nat.le_refl _) _).drew
    have SX : Hid (St9 w Wx w3.heap.size #[.int .i64 a1, .int .i64 a2, .int .i64 a3, .slice np n4 nc, .slice vp n5 vc, .int .i64 1, .int .i64 a7, .int .i64 a8, .slice q n9 c]) := ⟨S3.out.bel.trans (bel_le HBX.out S3.out.bel.size), by rw [← HWX.out]; exact heap_alloc_new w3 _⟩
    have HEX : Hid (EnIs Wx (.agg #[.int .i64 a1, .int .i64 a2, .int .i64 a3, .slice np n4 nc, .slice vp n5 vc, .int .i64 1, .int .i64 a7, .int .i64 a8, .slice q n9 c]) E) := by
      have hat := HAT.out Wx SX.out.bel
      show EnIs _ _ _
      rw [HEE.out]
      exact ⟨np, nc, vp, vc, q, c, by simp [EnV, HN4.out, HN5.out, HN9.out], hat.name, hat.value, hat.wraps, hat.ln, hat.lv, hat.lw⟩
    rw [HWX.out]
    clear HWX HBX HAT HEE g0 g1
    obtain ⟨p0, p1, p2, p3, p4, p5, p6, p7, p8⟩ := SX.out.cells
    go_wp2_with (first | (go_at_call 12; refine (HX12 _ _ HEX).mono ?_; rintro e w4 ⟨bq, bn, bc, rfl, B4⟩; have S4 : Hid (St9 w w4 w3.heap.size #[.int .i64 a1, .int .i64 a2, .int .i64 a3, .slice np n4 nc, .slice vp n5 vc, .int .i64 1, .int .i64 a7, .int .i64 a8, .slice q n9 c]) := SX.out.step B4.out; have E4 : Hid (EnIs w4 (.agg #[.int .i64 a1, .int .i64 a2, .int .i64 a3, .slice np n4 nc, .slice vp n5 vc, .int .i64 1, .int .i64 a7, .int .i64 a8, .slice q n9 c]) E) := HEX.out.below B4.out; obtain ⟨r0, r1, r2, r3, r4, r5, r6, r7, r8⟩ := S4.out.cells) | (go_at_call 13; refine (HX13 _ _ E4).mono ?_; rintro e w5 ⟨rfl, B5⟩))
    go_ret
    exact ⟨rfl, (S4.out.step B5.out).bel⟩
end Go.Proofs.Ytiihdpkpgcmioaa.E9
