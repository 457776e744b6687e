/- The walk of EntryOwn. -/
import Derived.Test.YtiihdpkpgcmioaaE9Head
import Derived.Test.YtiihdpkpgcmioaaC8OwnB
namespace Go.Proofs.Ytiihdpkpgcmioaa.E9
open Go.RowKit C8
theorem OwnB.turn {w w' : World} {base n : Nat} {v : Value} (h : OwnB w base n v) (hb : Below w.heap.size w w') : OwnB w' base n v := by
  obtain ⟨L, h1, h2⟩ := h
  exact ⟨L, h1, own_below h2 hb⟩
set_option maxHeartbeats 4000000 in
theorem own_any (a : En) (va : Value) (w : World) (ha : EnIs w va a) : Calls Try.prog 8 #[va] w fun e w' => e = .returned (.bool true) ∧ Below w.heap.size w w' := by
  have hA := ha
  obtain ⟨np, nc, vp, vc, q, c, rfl, -⟩ := ha
  have HEN : Hid (∀ W, Below w.heap.size w W → EnIs W (.agg (EnV a np nc vp vc q c)) a) := fun W h => hA.below h
  have HC9 : ∀ W, Hid (St9 w W w.heap.size (EnV a np nc vp vc q c)) → Calls Try.prog 9 #[] W fun e w' => e = .returned (.bool true) ∧ Hid (St9 w w' w.heap.size (EnV a np nc vp vc q c)) ∧ w'.cell? ⟨w.heap.size, 0, none⟩ = some (.int .i64 a.kind) ∧ w'.cell? ⟨w.heap.size, 1, none⟩ = some (.int .i64 a.writer) ∧ w'.cell? ⟨w.heap.size, 2, none⟩ = some (.int .i64 a.seq) ∧ w'.cell? ⟨w.heap.size, 3, none⟩ = some (.slice np a.name.length nc) ∧ w'.cell? ⟨w.heap.size, 4, none⟩ = some (.slice vp a.value.length vc) ∧ w'.cell? ⟨w.heap.size, 5, none⟩ = some (.int .i64 a.who) ∧ w'.cell? ⟨w.heap.size, 6, none⟩ = some (.int .i64 a.rights) ∧ w'.cell? ⟨w.heap.size, 7, none⟩ = some (.int .i64 a.epoch) ∧ w'.cell? ⟨w.heap.size, 8, none⟩ = some (.slice q a.wraps.length c) := fun W h => (anchor_any W).mono (by rintro e w' ⟨rfl, hb⟩; exact ⟨rfl, h.out.step hb, (h.out.step hb).cells⟩)
  have HC10 : ∀ W, Hid (St9 w W w.heap.size (EnV a np nc vp vc q c)) → Calls Try.prog 10 #[.agg (EnV a np nc vp vc q c)] W fun e w' => e = .returned (.bool (small a)) ∧ Hid (St9 w w' w.heap.size (EnV a np nc vp vc q c)) ∧ w'.cell? ⟨w.heap.size, 0, none⟩ = some (.int .i64 a.kind) ∧ w'.cell? ⟨w.heap.size, 1, none⟩ = some (.int .i64 a.writer) ∧ w'.cell? ⟨w.heap.size, 2, none⟩ = some (.int .i64 a.seq) ∧ w'.cell? ⟨w.heap.size, 3, none⟩ = some (.slice np a.name.length nc) ∧ w'.cell? ⟨w.heap.size, 4, none⟩ = some (.slice vp a.value.length vc) ∧ w'.cell? ⟨w.heap.size, 5, none⟩ = some (.int .i64 a.who) ∧ w'.cell? ⟨w.heap.size, 6, none⟩ = some (.int .i64 a.rights) ∧ w'.cell? ⟨w.heap.size, 7, none⟩ = some (.int .i64 a.epoch) ∧ w'.cell? ⟨w.heap.size, 8, none⟩ = some (.slice q a.wraps.length c) := fun W h => (small_any a _ W (HEN.out W h.out.bel)).mono (by rintro e w' ⟨rfl, hb⟩; exact ⟨rfl, h.out.step hb, (h.out.step hb).cells⟩)
  have HC12 : ∀ W, Hid (St9 w W w.heap.size (EnV a np nc vp vc q c)) → Calls Try.prog 12 #[.agg (EnV a np nc vp vc q c)] W fun e w' => Hid (St9 w w' w.heap.size (EnV a np nc vp vc q c)) ∧ ((right a = true ∧ ∃ g cb, e = .returned (.tuple #[.slice (some ⟨g, 0, none⟩) (bytes a).length cb, .int .i64 0]) ∧ Hid (w'.ownsRow (w.heap.size + 1) 5 1 (.slice (some ⟨g, 0, none⟩) (bytes a).length cb) (bytes a).length (ints .u8 (bytes a)))) ∨ (right a = false ∧ e = .returned (.tuple #[.slice none 0 0, .int .i64 10]))) := fun W h => (Encode_any a _ W (HEN.out W h.out.bel)).mono (by
    rintro e w' ⟨hb, ⟨hr, v, rfl, ho⟩ | ⟨hr, rfl⟩⟩
    · obtain ⟨g, cb, rfl, _⟩ := own_cell ho (by have := (bytes_length hr).2; omega)
      exact ⟨h.out.step hb, .inl ⟨hr, g, cb, rfl, own_older ho (Array.getElem?_eq_some_iff.1 h.out.box).1⟩⟩
    · exact ⟨h.out.step hb, .inr ⟨hr, rfl⟩⟩)
  have HC15 : right a = true → ∀ W g cb, Hid (St9 w W w.heap.size (EnV a np nc vp vc q c)) → Hid (W.ownsRow (w.heap.size + 1) 5 1 (.slice (some ⟨g, 0, none⟩) (bytes a).length cb) (bytes a).length (ints .u8 (bytes a))) → Calls Try.prog 15 #[.slice (some ⟨g, 0, none⟩) (bytes a).length cb] W fun e w' => ∃ xp xc yp yc zq zc, e = .returned (.tuple #[.agg #[.int .i64 a.kind, .int .i64 a.writer, .int .i64 a.seq, .slice xp a.name.length xc, .slice yp a.value.length yc, .int .i64 a.who, .int .i64 a.rights, .int .i64 a.epoch, .slice zq a.wraps.length zc], .int .i64 0]) ∧ Hid (St9 w (w'.alloc (.cells #[.int .i64 a.kind, .int .i64 a.writer, .int .i64 a.seq, .slice xp a.name.length xc, .slice yp a.value.length yc, .int .i64 a.who, .int .i64 a.rights, .int .i64 a.epoch, .slice zq a.wraps.length zc] 25)) w.heap.size (EnV a np nc vp vc q c)) ∧ Hid (OwnB (w'.alloc (.cells #[.int .i64 a.kind, .int .i64 a.writer, .int .i64 a.seq, .slice xp a.name.length xc, .slice yp a.value.length yc, .int .i64 a.who, .int .i64 a.rights, .int .i64 a.epoch, .slice zq a.wraps.length zc] 25)) (w.heap.size + 1) (bytes a).length (.slice (some ⟨g, 0, none⟩) (bytes a).length cb)) ∧ Hid (∀ wr, (w'.alloc (.cells #[.int .i64 a.kind, .int .i64 a.writer, .int .i64 a.seq, .slice xp a.name.length xc, .slice yp a.value.length yc, .int .i64 a.who, .int .i64 a.rights, .int .i64 a.epoch, .slice zq a.wraps.length zc] 25)).grownBy wr (some g) → EnIs wr (.agg #[.int .i64 a.kind, .int .i64 a.writer, .int .i64 a.seq, .slice xp a.name.length xc, .slice yp a.value.length yc, .int .i64 a.who, .int .i64 a.rights, .int .i64 a.epoch, .slice zq a.wraps.length zc]) a ∧ St9 w wr w.heap.size (EnV a np nc vp vc q c) ∧ St9 w wr w'.heap.size #[.int .i64 a.kind, .int .i64 a.writer, .int .i64 a.seq, .slice xp a.name.length xc, .slice yp a.value.length yc, .int .i64 a.who, .int .i64 a.rights, .int .i64 a.epoch, .slice zq a.wraps.length zc]) := fun hr W g cb h ho => by
    have hs : ∀ x ∈ bytes a, x < 256 := bytes_small (hA.small)
    refine (Decode_any _ _ W (Src.own hs ho.out) (by have := (bytes_length hr).1; omega)).mono ?_
    rintro e w' ⟨hb, ⟨E, v, hd, rfl, hn⟩ | ⟨hd, _⟩⟩
    · rw [dec_own false hr] at hd
      obtain rfl := Option.some.inj hd
      obtain ⟨xp, xc, yp, yc, zq, zc, rfl, -⟩ := hn.is
      have hal : Below w'.heap.size w' (w'.alloc (.cells #[.int .i64 a.kind, .int .i64 a.writer, .int .i64 a.seq, .slice xp a.name.length xc, .slice yp a.value.length yc, .int .i64 a.who, .int .i64 a.rights, .int .i64 a.epoch, .slice zq a.wraps.length zc] 25)) := bel_alloc (Nat.le_refl _) _
      have hst := (h.out.step hb).step hal
      have hg := ho.out.lt g rfl
      refine ⟨xp, xc, yp, yc, zq, zc, rfl, hst, ⟨_, hs, own_below ho.out (hb.trans (bel_le hal hb.size))⟩, fun wr hgr => ⟨hn wr ⟨fun k hk hl => ?_, ?_⟩, ⟨?_, ?_⟩, ⟨?_, ?_⟩⟩⟩
      · rw [hgr.block k (by simp; omega) (fun e => by cases e; omega)]
        exact Below.heap_alloc _ _ _ hl
      · exact Nat.le_trans hal.size hgr.size
      · exact hst.bel.grown hgr hst.bel.size (fun k hk => by cases hk; omega)
      · rw [hgr.block w.heap.size (Array.getElem?_eq_some_iff.1 hst.box).1 (fun e => by cases e; omega)]
        exact hst.box
      · exact hst.bel.grown hgr hst.bel.size (fun k hk => by cases hk; omega)
      · rw [hgr.block w'.heap.size (by simp) (fun e => by cases e; have := hb.size; omega)]
        exact heap_alloc_new w' _
    · rw [dec_own false hr] at hd
      cases hd
  have HC19 : ∀ W v, Hid (EnIs W v a) → Hid (St9 w W w.heap.size (EnV a np nc vp vc q c)) → Calls Try.prog 19 #[v, .agg (EnV a np nc vp vc q c)] W fun e w' => e = .returned (.bool true) ∧ Hid (Below w.heap.size w w') := fun W v h1 h2 => (Same_any a a _ _ W h1.out (HEN.out W h2.out.bel)).mono (by
    rintro e w' ⟨rfl, hb⟩
    exact ⟨by rw [(same_iff a a).2 rfl], h2.out.bel.trans (bel_le hb h2.out.bel.size)⟩)
  have HS0 : Hid (St9 w (w.alloc (.cells (EnV a np nc vp vc q c) 25)) w.heap.size (EnV a np nc vp vc q c)) := St9.start w _
  clear hA HEN
  cases hs : small a with
  | false =>
    rw [hs] at HC10
    clear HC12 HC15 HC19 hs
    obtain ⟨a1, a2, a3, a4, a5, a6, a7, a8, a9⟩ := a
    simp only [EnV] at HC9 HC10 HS0 ⊢
    generalize a4.length = n4 at *
    generalize a5.length = n5 at *
    generalize a9.length = n9 at *
    go_enter Try.func8, Try.ntmps8
    go_wp2_with (first | (go_at_call 9; refine (HC9 _ HS0).mono ?_; rintro e w1 ⟨rfl, S1, d0, d1, d2, d3, d4, d5, d6, d7, d8⟩) | (go_at_call 10; refine (HC10 _ S1).mono ?_; rintro e w2 ⟨rfl, S2, e0, e1, e2, e3, e4, e5, e6, e7, e8⟩))
    go_ret
    exact ⟨rfl, S2.out.bel⟩
  | true =>
    rw [hs] at HC10
    cases hr : right a with
    | false =>
      have HC12b : ∀ W, Hid (St9 w W w.heap.size (EnV a np nc vp vc q c)) → Calls Try.prog 12 #[.agg (EnV a np nc vp vc q c)] W fun e w' => e = .returned (.tuple #[.slice none 0 0, .int .i64 10]) ∧ Hid (St9 w w' w.heap.size (EnV a np nc vp vc q c)) := fun W h => (HC12 W h).mono (by
        rintro e w' ⟨h1, ⟨h2, _⟩ | ⟨_, h2⟩⟩
        · rw [hr] at h2; cases h2
        · exact ⟨h2, h1⟩)
      clear HC12 HC15 HC19 hs hr
      obtain ⟨a1, a2, a3, a4, a5, a6, a7, a8, a9⟩ := a
      simp only [EnV] at HC9 HC10 HC12b HS0 ⊢
      generalize a4.length = n4 at *
      generalize a5.length = n5 at *
      generalize a9.length = n9 at *
      go_enter Try.func8, Try.ntmps8
      go_wp2_with (first | (go_at_call 9; refine (HC9 _ HS0).mono ?_; rintro e w1 ⟨rfl, S1, d0, d1, d2, d3, d4, d5, d6, d7, d8⟩) | (go_at_call 10; refine (HC10 _ S1).mono ?_; rintro e w2 ⟨rfl, S2, e0, e1, e2, e3, e4, e5, e6, e7, e8⟩) | (go_at_call 12; refine (HC12b _ S2).mono ?_; rintro e w3 ⟨rfl, S3⟩))
      go_ret
      exact ⟨rfl, S3.out.bel⟩
    | true =>
      have HC12b : ∀ W, Hid (St9 w W w.heap.size (EnV a np nc vp vc q c)) → Calls Try.prog 12 #[.agg (EnV a np nc vp vc q c)] W fun e w' => ∃ g cb, e = .returned (.tuple #[.slice (some ⟨g, 0, none⟩) (bytes a).length cb, .int .i64 0]) ∧ Hid (St9 w w' w.heap.size (EnV a np nc vp vc q c)) ∧ Hid (w'.ownsRow (w.heap.size + 1) 5 1 (.slice (some ⟨g, 0, none⟩) (bytes a).length cb) (bytes a).length (ints .u8 (bytes a))) := fun W h => (HC12 W h).mono (by
        rintro e w' ⟨h1, ⟨_, g, cb, h2, h3⟩ | ⟨h2, _⟩⟩
        · exact ⟨g, cb, h2, h1, h3⟩
        · rw [hr] at h2; cases h2)
      replace HC15 := HC15 hr
      have hbl := (bytes_length hr).1
      clear HC12 hs hr
      generalize bytes a = bb at *
      obtain ⟨n, HN⟩ : ∃ n, Hid (bb.length = n) := ⟨_, rfl⟩
      rw [HN.out] at HC12b HC15 hbl
      have hn1 : (n : Int) ≤ 1000 := by omega
      obtain ⟨a1, a2, a3, a4, a5, a6, a7, a8, a9⟩ := a
      simp only [EnV] at HC9 HC10 HC12b HC15 HC19 HS0 ⊢
      generalize a4.length = n4 at *
      generalize a5.length = n5 at *
      generalize a9.length = n9 at *
      go_enter Try.func8, Try.ntmps8
      go_wp2_with (first | (go_at_call 9; refine (HC9 _ HS0).mono ?_; rintro e w1 ⟨rfl, S1, d0, d1, d2, d3, d4, d5, d6, d7, d8⟩) | (go_at_call 10; refine (HC10 _ S1).mono ?_; rintro e w2 ⟨rfl, S2, e0, e1, e2, e3, e4, e5, e6, e7, e8⟩) | (go_at_call 12; refine (HC12b _ S2).mono ?_; rintro e w3 ⟨g, cb, rfl, S3, O3⟩) | (go_at_call 15; refine (HC15 _ _ _ S3 O3).mono ?_; rintro e w4 ⟨xp, xc, yp, yc, zq, zc, rfl, S4, O4, F4⟩))
      clear HC9 HC10 HC12b HC15 d0 d1 d2 d3 d4 d5 d6 d7 d8 e0 e1 e2 e3 e4 e5 e6 e7 e8
      generalize w4.heap.size = b5 at *
      go_loopw [27] (fun i wr => ∃ j : Nat, j ≤ n ∧ i = .int .i64 j ∧ Hid (OwnB wr (w.heap.size + 1) n (.slice (some ⟨g, 0, none⟩) n cb)) ∧ Hid ((w4.alloc (.cells #[.int .i64 a1, .int .i64 a2, .int .i64 a3, .slice xp n4 xc, .slice yp n5 yc, .int .i64 a6, .int .i64 a7, .int .i64 a8, .slice zq n9 zc] 25)).grownBy wr (some g))) (fun i _ => n - (intOf i).toNat)
      case atStart => exact ⟨0, by omega, rfl, O4, grownBy_refl _ _⟩
      case round =>
        obtain ⟨j, hj, rfl, HO, HG⟩ := hrel
        by_cases hlt : j < n
        · obtain ⟨g1, c1', y, e1, hg1, hy, hc1, hf1⟩ := HO.out.at j hlt
          cases e1
          obtain ⟨z, hz, hx⟩ := flip8 hy
          have j1 : (j : Int) < (n : Int) := by omega
          have j0 : (0 : Int) ≤ (j : Int) := by omega
          have HO2 : Hid (OwnB (wr.setCell ⟨g, j, none⟩ (.int .u8 (z : Nat))) (w.heap.size + 1) n (.slice (some ⟨g, 0, none⟩) n cb)) := HO.out.set hz
          have HG2 : Hid ((w4.alloc (.cells #[.int .i64 a1, .int .i64 a2, .int .i64 a3, .slice xp n4 xc, .slice yp n5 yc, .int .i64 a6, .int .i64 a7, .int .i64 a8, .slice zq n9 zc] 25)).grownBy (wr.setCell ⟨g, j, none⟩ (.int .u8 (z : Nat))) (some g)) := grownBy_set HG.out j _
          clear HO HG
          go_wp2_with fail
          go_roundw
          case rel =>
            first
              | exact ⟨j + 1, by omega, by go_num, HO2.out, HG2.out⟩
              | ((repeat apply Exists.intro)
                 refine ⟨⟨j + 1, by omega, ?_, HO2.out, HG2.out⟩, rfl⟩
                 go_num)
          case measure => simp [intOf]; omega
        · obtain rfl : j = n := by omega
          have j1 : ¬ (j : Int) < (j : Int) := by omega
          obtain ⟨EE, S5, X5⟩ := F4.out wr HG.out
          have HE5 : Hid (EnIs wr (.agg #[.int .i64 a1, .int .i64 a2, .int .i64 a3, .slice xp n4 xc, .slice yp n5 yc, .int .i64 a6, .int .i64 a7, .int .i64 a8, .slice zq n9 zc]) ⟨a1, a2, a3, a4, a5, a6, a7, a8, a9⟩) := EE
          have HS5 : Hid (St9 w wr w.heap.size #[.int .i64 a1, .int .i64 a2, .int .i64 a3, .slice np n4 nc, .slice vp n5 vc, .int .i64 a6, .int .i64 a7, .int .i64 a8, .slice q n9 c]) := S5
          obtain ⟨d0, d1, d2, d3, d4, d5, d6, d7, d8⟩ := S5.cells
          obtain ⟨e0, e1, e2, e3, e4, e5, e6, e7, e8⟩ := X5.cells
          clear EE S5 X5 F4 S4 O4 HO HG
          go_wp2_with (first | (go_at_call 19; refine (HC19 _ _ HE5 HS5).mono ?_; rintro e w5 ⟨rfl, B5⟩))
          go_ret
          exact ⟨rfl, B5.out⟩
end Go.Proofs.Ytiihdpkpgcmioaa.E9
