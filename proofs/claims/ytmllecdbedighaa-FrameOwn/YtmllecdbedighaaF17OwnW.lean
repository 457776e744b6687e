/- The walk of FrameOwn. -/
import Derived.Test.YtmllecdbedighaaF17Anc
import Derived.Test.YtmllecdbedighaaC8OwnB
namespace Go.Proofs.Ytmllecdbedighaa.F17
open Go.RowKit C8 E9
theorem ownTurn {w w' : World} {base n : Nat} {v : Value} (h : OwnB w base n v) (hb : Below w.heap.size w w') : OwnB w' base n v := by
  obtain ⟨L, h1, h2⟩ := h
  exact ⟨L, h1, own_below h2 hb⟩
set_option maxHeartbeats 2000000 in
theorem own_e1 (f : Fr) (v : Value) (w : World) (hf : FrIs w v f) (hs : small f = false) : Calls Try.prog 8 #[v] w fun e w' => e = .returned (.bool true) ∧ Below w.heap.size w w' := by
  have hA := hf
  obtain ⟨q, c, sp, sc, rfl, -⟩ := hf
  have HEN : Hid (∀ W, Below w.heap.size w W → FrIs W (.agg (FrV f q c sp sc)) f) := fun W h => hA.below h
  have HC9 : ∀ W, Hid (St9 w W w.heap.size (FrV f q c sp sc)) → Calls Try.prog 9 #[] W fun e w' => e = .returned (.bool true) ∧ Hid (St9 w w' w.heap.size (FrV f q c sp sc)) ∧ w'.cell? ⟨w.heap.size, 0, none⟩ = some (.int .i64 f.kind) ∧ w'.cell? ⟨w.heap.size, 1, none⟩ = some (.int .i64 f.coll) ∧ w'.cell? ⟨w.heap.size, 2, none⟩ = some (.int .i64 f.idx) ∧ w'.cell? ⟨w.heap.size, 3, none⟩ = some (.slice q f.links.length c) ∧ w'.cell? ⟨w.heap.size, 4, none⟩ = some (.slice sp f.sum.length sc) := fun W h => (anchor_any W).mono (by rintro e w' ⟨rfl, hb⟩; exact ⟨rfl, h.out.step hb, (h.out.step hb).cells⟩)
  have HC10 : ∀ W, Hid (St9 w W w.heap.size (FrV f q c sp sc)) → Calls Try.prog 10 #[.agg (FrV f q c sp sc)] W fun e w' => e = .returned (.bool (small f)) ∧ Hid (St9 w w' w.heap.size (FrV f q c sp sc)) ∧ w'.cell? ⟨w.heap.size, 0, none⟩ = some (.int .i64 f.kind) ∧ w'.cell? ⟨w.heap.size, 1, none⟩ = some (.int .i64 f.coll) ∧ w'.cell? ⟨w.heap.size, 2, none⟩ = some (.int .i64 f.idx) ∧ w'.cell? ⟨w.heap.size, 3, none⟩ = some (.slice q f.links.length c) ∧ w'.cell? ⟨w.heap.size, 4, none⟩ = some (.slice sp f.sum.length sc) := fun W h => (small_any f _ W (HEN.out W h.out.bel)).mono (by rintro e w' ⟨rfl, hb⟩; exact ⟨rfl, h.out.step hb, (h.out.step hb).cells⟩)
  have HS0 : Hid (St9 w (w.alloc (.cells (FrV f q c sp sc) 25)) w.heap.size (FrV f q c sp sc)) := St9.start w _
  clear hA HEN
  rw [hs] at HC10
  clear hs
  obtain ⟨k, cl, i, ls, t⟩ := f
  simp only [FrV] at HC9 HC10 HS0 ⊢
  generalize ls.length = n3 at *
  generalize t.length = n4 at *
  go_enter Try.func8, Try.ntmps8
  go_wp2_with (first | (go_at_call 9; refine (HC9 _ HS0).mono ?_; rintro e w1 ⟨rfl, S1, d0, d1, d2, d3, d4⟩) | (go_at_call 10; refine (HC10 _ S1).mono ?_; rintro e w2 ⟨rfl, S2, e0, e1, e2, e3, e4⟩))
  go_ret
  exact ⟨rfl, S2.out.bel⟩
set_option maxHeartbeats 2000000 in
theorem own_e2 (f : Fr) (v : Value) (w : World) (hf : FrIs w v f) (hs : small f = true) (hr : ¬ (right f = true ∧ (bytes f).length ≤ 32768)) : Calls Try.prog 8 #[v] w fun e w' => e = .returned (.bool true) ∧ Below w.heap.size w w' := by
  have hA := hf
  obtain ⟨q, c, sp, sc, rfl, -⟩ := hf
  have HEN : Hid (∀ W, Below w.heap.size w W → FrIs W (.agg (FrV f q c sp sc)) f) := fun W h => hA.below h
  have HC9 : ∀ W, Hid (St9 w W w.heap.size (FrV f q c sp sc)) → Calls Try.prog 9 #[] W fun e w' => e = .returned (.bool true) ∧ Hid (St9 w w' w.heap.size (FrV f q c sp sc)) ∧ w'.cell? ⟨w.heap.size, 0, none⟩ = some (.int .i64 f.kind) ∧ w'.cell? ⟨w.heap.size, 1, none⟩ = some (.int .i64 f.coll) ∧ w'.cell? ⟨w.heap.size, 2, none⟩ = some (.int .i64 f.idx) ∧ w'.cell? ⟨w.heap.size, 3, none⟩ = some (.slice q f.links.length c) ∧ w'.cell? ⟨w.heap.size, 4, none⟩ = some (.slice sp f.sum.length sc) := fun W h => (anchor_any W).mono (by rintro e w' ⟨rfl, hb⟩; exact ⟨rfl, h.out.step hb, (h.out.step hb).cells⟩)
  have HC10 : ∀ W, Hid (St9 w W w.heap.size (FrV f q c sp sc)) → Calls Try.prog 10 #[.agg (FrV f q c sp sc)] W fun e w' => e = .returned (.bool (small f)) ∧ Hid (St9 w w' w.heap.size (FrV f q c sp sc)) ∧ w'.cell? ⟨w.heap.size, 0, none⟩ = some (.int .i64 f.kind) ∧ w'.cell? ⟨w.heap.size, 1, none⟩ = some (.int .i64 f.coll) ∧ w'.cell? ⟨w.heap.size, 2, none⟩ = some (.int .i64 f.idx) ∧ w'.cell? ⟨w.heap.size, 3, none⟩ = some (.slice q f.links.length c) ∧ w'.cell? ⟨w.heap.size, 4, none⟩ = some (.slice sp f.sum.length sc) := fun W h => (small_any f _ W (HEN.out W h.out.bel)).mono (by rintro e w' ⟨rfl, hb⟩; exact ⟨rfl, h.out.step hb, (h.out.step hb).cells⟩)
  have HS0 : Hid (St9 w (w.alloc (.cells (FrV f q c sp sc) 25)) w.heap.size (FrV f q c sp sc)) := St9.start w _
  have HC11 : ∀ W, Hid (St9 w W w.heap.size (FrV f q c sp sc)) → Calls Try.prog 11 #[.agg (FrV f q c sp sc)] W fun e w' => ∃ er, e = .returned (.tuple #[.slice none 0 0, .int .i64 er]) ∧ (er == 0) = false ∧ ¬ er = 0 ∧ Hid (St9 w w' w.heap.size (FrV f q c sp sc)) := fun W h => (Encode_any f _ W (HEN.out W h.out.bel)).mono (by
    rintro e w' ⟨hb, ⟨h2, h3, _⟩ | ⟨_, _, h2⟩ | ⟨_, h2⟩⟩
    · exact absurd ⟨h2, h3⟩ hr
    · exact ⟨11, h2, rfl, by decide, h.out.step hb⟩
    · exact ⟨10, h2, rfl, by decide, h.out.step hb⟩)
  clear hA HEN hr
  rw [hs] at HC10
  clear hs
  obtain ⟨k, cl, i, ls, t⟩ := f
  simp only [FrV] at HC9 HC10 HC11 HS0 ⊢
  generalize ls.length = n3 at *
  generalize t.length = n4 at *
  go_enter Try.func8, Try.ntmps8
  go_wp2_with (first | (go_at_call 9; refine (HC9 _ HS0).mono ?_; rintro e w1 ⟨rfl, S1, d0, d1, d2, d3, d4⟩) | (go_at_call 10; refine (HC10 _ S1).mono ?_; rintro e w2 ⟨rfl, S2, e0, e1, e2, e3, e4⟩) | (go_at_call 11; refine (HC11 _ S2).mono ?_; rintro e w3 ⟨er, rfl, z1, z2, S3⟩))
  go_ret
  exact ⟨rfl, S3.out.bel⟩
set_option maxHeartbeats 4000000 in
theorem own_main (f : Fr) (v : Value) (w : World) (hf : FrIs w v f) (hs : small f = true) (hr : right f = true) (hl : (bytes f).length ≤ 32768) : Calls Try.prog 8 #[v] w fun e w' => e = .returned (.bool true) ∧ Below w.heap.size w w' := by
  have hA := hf
  obtain ⟨q, c, sp, sc, rfl, -⟩ := hf
  have HEN : Hid (∀ W, Below w.heap.size w W → FrIs W (.agg (FrV f q c sp sc)) f) := fun W h => hA.below h
  have HC9 : ∀ W, Hid (St9 w W w.heap.size (FrV f q c sp sc)) → Calls Try.prog 9 #[] W fun e w' => e = .returned (.bool true) ∧ Hid (St9 w w' w.heap.size (FrV f q c sp sc)) ∧ w'.cell? ⟨w.heap.size, 0, none⟩ = some (.int .i64 f.kind) ∧ w'.cell? ⟨w.heap.size, 1, none⟩ = some (.int .i64 f.coll) ∧ w'.cell? ⟨w.heap.size, 2, none⟩ = some (.int .i64 f.idx) ∧ w'.cell? ⟨w.heap.size, 3, none⟩ = some (.slice q f.links.length c) ∧ w'.cell? ⟨w.heap.size, 4, none⟩ = some (.slice sp f.sum.length sc) := fun W h => (anchor_any W).mono (by rintro e w' ⟨rfl, hb⟩; exact ⟨rfl, h.out.step hb, (h.out.step hb).cells⟩)
  have HC10 : ∀ W, Hid (St9 w W w.heap.size (FrV f q c sp sc)) → Calls Try.prog 10 #[.agg (FrV f q c sp sc)] W fun e w' => e = .returned (.bool (small f)) ∧ Hid (St9 w w' w.heap.size (FrV f q c sp sc)) ∧ w'.cell? ⟨w.heap.size, 0, none⟩ = some (.int .i64 f.kind) ∧ w'.cell? ⟨w.heap.size, 1, none⟩ = some (.int .i64 f.coll) ∧ w'.cell? ⟨w.heap.size, 2, none⟩ = some (.int .i64 f.idx) ∧ w'.cell? ⟨w.heap.size, 3, none⟩ = some (.slice q f.links.length c) ∧ w'.cell? ⟨w.heap.size, 4, none⟩ = some (.slice sp f.sum.length sc) := fun W h => (small_any f _ W (HEN.out W h.out.bel)).mono (by rintro e w' ⟨rfl, hb⟩; exact ⟨rfl, h.out.step hb, (h.out.step hb).cells⟩)
  have HS0 : Hid (St9 w (w.alloc (.cells (FrV f q c sp sc) 25)) w.heap.size (FrV f q c sp sc)) := St9.start w _
  have HC11 : ∀ W, Hid (St9 w W w.heap.size (FrV f q c sp sc)) → Calls Try.prog 11 #[.agg (FrV f q c sp sc)] W fun e w' => ∃ g cb, e = .returned (.tuple #[.slice (some ⟨g, 0, none⟩) (bytes f).length cb, .int .i64 0]) ∧ Hid (St9 w w' w.heap.size (FrV f q c sp sc)) ∧ Hid (w'.ownsRow (w.heap.size + 1) 5 1 (.slice (some ⟨g, 0, none⟩) (bytes f).length cb) (bytes f).length (ints .u8 (bytes f))) ∧ w'.cell? ⟨w.heap.size, 0, none⟩ = some (.int .i64 f.kind) ∧ w'.cell? ⟨w.heap.size, 1, none⟩ = some (.int .i64 f.coll) ∧ w'.cell? ⟨w.heap.size, 2, none⟩ = some (.int .i64 f.idx) ∧ w'.cell? ⟨w.heap.size, 3, none⟩ = some (.slice q f.links.length c) ∧ w'.cell? ⟨w.heap.size, 4, none⟩ = some (.slice sp f.sum.length sc) := fun W h => (Encode_any f _ W (HEN.out W h.out.bel)).mono (by
    rintro e w' ⟨hb, ⟨_, _, v, rfl, ho⟩ | ⟨_, h2, _⟩ | ⟨h2, _⟩⟩
    · obtain ⟨g, cb, rfl, _⟩ := own_cell ho (by have := (bytes_length hr).2; omega)
      exact ⟨g, cb, rfl, h.out.step hb, own_older ho (Array.getElem?_eq_some_iff.1 h.out.box).1, (h.out.step hb).cells⟩
    · omega
    · rw [hr] at h2; cases h2)
  have HC15 : ∀ W g cb, Hid (St9 w W w.heap.size (FrV f q c sp sc)) → Hid (W.ownsRow (w.heap.size + 1) 5 1 (.slice (some ⟨g, 0, none⟩) (bytes f).length cb) (bytes f).length (ints .u8 (bytes f))) → Calls Try.prog 15 #[.slice (some ⟨g, 0, none⟩) (bytes f).length cb] W fun e w' => ∃ xq xc yq yc, e = .returned (.tuple #[.agg #[.int .i64 f.kind, .int .i64 f.coll, .int .i64 f.idx, .slice xq f.links.length xc, .slice yq f.sum.length yc], .int .i64 0]) ∧ Hid (St9 w (w'.alloc (.cells #[.int .i64 f.kind, .int .i64 f.coll, .int .i64 f.idx, .slice xq f.links.length xc, .slice yq f.sum.length yc] 25)) w.heap.size (FrV f q c sp sc)) ∧ Hid (OwnB (w'.alloc (.cells #[.int .i64 f.kind, .int .i64 f.coll, .int .i64 f.idx, .slice xq f.links.length xc, .slice yq f.sum.length yc] 25)) (w.heap.size + 1) (bytes f).length (.slice (some ⟨g, 0, none⟩) (bytes f).length cb)) ∧ Hid (∀ wr, (w'.alloc (.cells #[.int .i64 f.kind, .int .i64 f.coll, .int .i64 f.idx, .slice xq f.links.length xc, .slice yq f.sum.length yc] 25)).grownBy wr (some g) → FrIs wr (.agg #[.int .i64 f.kind, .int .i64 f.coll, .int .i64 f.idx, .slice xq f.links.length xc, .slice yq f.sum.length yc]) f ∧ St9 w wr w.heap.size (FrV f q c sp sc) ∧ St9 w wr w'.heap.size #[.int .i64 f.kind, .int .i64 f.coll, .int .i64 f.idx, .slice xq f.links.length xc, .slice yq f.sum.length yc]) := fun W g cb h ho => by
    have hs : ∀ x ∈ bytes f, x < 256 := bytes_small hA.small
    refine (Decode_any _ _ W (Src.own hs ho.out)).mono ?_
    rintro e w' ⟨hb, ⟨h2, _⟩ | ⟨_, ⟨F, v, hd, rfl, hn⟩ | ⟨hd, _⟩⟩⟩
    · omega
    · rw [dec_own hr] at hd
      obtain rfl := Option.some.inj hd
      obtain ⟨xq, xc, yq, yc, rfl, -⟩ := hn.is
      have hal : Below w'.heap.size w' (w'.alloc (.cells #[.int .i64 f.kind, .int .i64 f.coll, .int .i64 f.idx, .slice xq f.links.length xc, .slice yq f.sum.length yc] 25)) := bel_alloc (Nat.le_refl _) _
      have hst := (h.out.step hb).step hal
      have hg := ho.out.lt g rfl
      refine ⟨xq, xc, yq, yc, rfl, hst, ⟨_, hs, own_below ho.out (hb.trans (bel_le hal hb.size))⟩, fun wr hgr => ⟨hn wr ⟨fun k hk hl => ?_, ?_⟩, ⟨?_, ?_⟩, ⟨?_, ?_⟩⟩⟩
      · rw [hgr.block k (by simp; omega) (fun e => by cases e; omega)]
        exact Below.heap_alloc _ _ _ hl
      · exact Nat.le_trans hal.size hgr.size
      · exact hst.bel.grown hgr hst.bel.size (fun k hk => by cases hk; omega)
      · rw [hgr.block w.heap.size (Array.getElem?_eq_some_iff.1 hst.box).1 (fun e => by cases e; omega)]
        exact hst.box
      · exact hst.bel.grown hgr hst.bel.size (fun k hk => by cases hk; omega)
      · rw [hgr.block w'.heap.size (by simp) (fun e => by cases e; have := hb.size; omega)]
        exact heap_alloc_new w' _
    · rw [dec_own hr] at hd
      cases hd
  have HC18 : ∀ W v, Hid (FrIs W v f) → Hid (St9 w W w.heap.size (FrV f q c sp sc)) → Calls Try.prog 18 #[v, .agg (FrV f q c sp sc)] W fun e w' => e = .returned (.bool true) ∧ Hid (Below w.heap.size w w') := fun W v h1 h2 => (Same_any f f _ _ W h1.out (HEN.out W h2.out.bel)).mono (by
    rintro e w' ⟨rfl, hb⟩
    exact ⟨by rw [(same_iff f f).2 rfl], h2.out.bel.trans (bel_le hb h2.out.bel.size)⟩)
  clear hA HEN hr
  rw [hs] at HC10
  clear hs
  generalize bytes f = bb at *
  obtain ⟨n, HN⟩ : ∃ n, Hid (bb.length = n) := ⟨_, rfl⟩
  rw [HN.out] at HC11 HC15 hl
  have hn1 : (n : Int) ≤ 32768 := by omega
  obtain ⟨k, cl, i, ls, t⟩ := f
  simp only [FrV] at HC9 HC10 HC11 HC15 HC18 HS0 ⊢
  generalize ls.length = n3 at *
  generalize t.length = n4 at *
  go_enter Try.func8, Try.ntmps8
  go_wp2_with (first | (go_at_call 9; refine (HC9 _ HS0).mono ?_; rintro e w1 ⟨rfl, S1, d0, d1, d2, d3, d4⟩) | (go_at_call 10; refine (HC10 _ S1).mono ?_; rintro e w2 ⟨rfl, S2, e0, e1, e2, e3, e4⟩) | (go_at_call 11; refine (HC11 _ S2).mono ?_; rintro e w3 ⟨g, cb, rfl, S3, O3, m0, m1, m2, m3, m4⟩) | (go_at_call 15; refine (HC15 _ _ _ S3 O3).mono ?_; rintro e w4 ⟨xq, xc, yq, yc, rfl, S4, O4, F4⟩))
  clear HC9 HC10 HC11 HC15 d0 d1 d2 d3 d4 e0 e1 e2 e3 e4 m0 m1 m2 m3 m4
  generalize w4.heap.size = b5 at *
  go_loopw [27] (fun iv wr => ∃ j : Nat, j ≤ n ∧ iv = .int .i64 j ∧ Hid (OwnB wr (w.heap.size + 1) n (.slice (some ⟨g, 0, none⟩) n cb)) ∧ Hid ((w4.alloc (.cells #[.int .i64 k, .int .i64 cl, .int .i64 i, .slice xq n3 xc, .slice yq n4 yc] 25)).grownBy wr (some g))) (fun iv _ => n - (intOf iv).toNat)
  case atStart => exact ⟨0, by omega, rfl, O4, grownBy_refl _ _⟩
  case round =>
    obtain ⟨j, hj, rfl, HO, HG⟩ := hrel
    by_cases hlt : j < n
    · obtain ⟨g1, c1', y, e1, hg1, hy, hc1, hf1⟩ := HO.out.at j hlt
      cases e1
      obtain ⟨z, hz, hx⟩ := flip8 hy
      have j1 : (j : Int) < (n : Int) := by omega
      have j0 : (0 : Int) ≤ (j : Int) := by omega
      have HO2 : Hid (OwnB (wr.setCell ⟨g, j, none⟩ (.int .u8 (z : Nat))) (w.heap.size + 1) n (.slice (some ⟨g, 0, none⟩) n cb)) := HO.out.set hz
      have HG2 : Hid ((w4.alloc (.cells #[.int .i64 k, .int .i64 cl, .int .i64 i, .slice xq n3 xc, .slice yq n4 yc] 25)).grownBy (wr.setCell ⟨g, j, none⟩ (.int .u8 (z : Nat))) (some g)) := grownBy_set HG.out j _
      clear HO HG
      go_wp2_with fail
      go_roundw
      case rel =>
        first
          | exact ⟨j + 1, by omega, by go_num, HO2.out, HG2.out⟩
          | ((repeat apply Exists.intro)
             refine ⟨⟨j + 1, by omega, ?_, HO2.out, HG2.out⟩, rfl⟩
             go_num)
      case measure => simp [intOf]; omega
    · obtain rfl : j = n := by omega
      have j1 : ¬ (j : Int) < (j : Int) := by omega
      obtain ⟨EE, S5, X5⟩ := F4.out wr HG.out
      have HE5 : Hid (FrIs wr (.agg #[.int .i64 k, .int .i64 cl, .int .i64 i, .slice xq n3 xc, .slice yq n4 yc]) ⟨k, cl, i, ls, t⟩) := EE
      have HS5 : Hid (St9 w wr w.heap.size #[.int .i64 k, .int .i64 cl, .int .i64 i, .slice q n3 c, .slice sp n4 sc]) := S5
      obtain ⟨d0, d1, d2, d3, d4⟩ := S5.cells
      obtain ⟨e0, e1, e2, e3, e4⟩ := X5.cells
      clear EE S5 X5 F4 S4 O4 HO HG
      go_wp2_with (first | (go_at_call 18; refine (HC18 _ _ HE5 HS5).mono ?_; rintro e w5 ⟨rfl, B5⟩))
      go_ret
      exact ⟨rfl, B5.out⟩
theorem own_any (f : Fr) (v : Value) (w : World) (hf : FrIs w v f) : Calls Try.prog 8 #[v] w fun e w' => e = .returned (.bool true) ∧ Below w.heap.size w w' := by
  cases hs : small f with
  | false => exact own_e1 f v w hf hs
  | true =>
    by_cases hr : right f = true ∧ (bytes f).length ≤ 32768
    · exact own_main f v w hf hs hr.1 hr.2
    · exact own_e2 f v w hf hs hr
end Go.Proofs.Ytmllecdbedighaa.F17
