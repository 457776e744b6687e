/- The walk of FrameDecodes. -/
import Derived.Test.YtmllecdbedighaaF17Anc
import Derived.Test.YtmllecdbedighaaF17RSame
import Derived.Test.YtmllecdbedighaaF17Read
namespace Go.Proofs.Ytmllecdbedighaa.F17
open Go.RowKit C8 E9
set_option maxHeartbeats 4000000 in
theorem dcw_long (sv : Value) (l : List Nat) (w : World) (hs : Src w sv l) (hl : 33000 < l.length) (hm : l.length ≤ 9223372036854775807) : Calls Try.prog 4 #[sv] w fun e w' => e = .returned (.bool true) ∧ Below w.heap.size w w' := by
  have HC9 : Calls Try.prog 9 #[] w fun e w' => e = .returned (.bool true) ∧ Hid (Below w.heap.size w w') := anchor_any w
  obtain ⟨sq, sc, rfl, -⟩ := hs.slice
  have h1 : (33000 : Int) < (l.length : Int) := by omega
  have h2 : (l.length : Int) ≤ 9223372036854775807 := by omega
  clear hs hl hm
  generalize l.length = ln at *
  go_enter Try.func4, Try.ntmps4
  go_wp2_with (first | (go_at_call 9; refine HC9.mono ?_; rintro e w1 ⟨rfl, B1⟩))
  go_ret
  exact ⟨rfl, B1.out⟩
set_option maxHeartbeats 4000000 in
theorem dcw_no (sv : Value) (l : List Nat) (w : World) (hs : Src w sv l) (hl : l.length ≤ 33000) (er : Int) (hz : ¬ er = 0) (hD : ∀ W, Below w.heap.size w W → Calls Try.prog 15 #[sv] W fun e w' => e = .returned (.tuple #[.agg #[.int .i64 0, .int .i64 0, .int .i64 0, .slice none 0 0, .slice none 0 0], .int .i64 er]) ∧ Below W.heap.size W w') (hR : ∀ W, Below w.heap.size w W → Calls Try.prog 17 #[sv] W fun e w' => e = .returned (.tuple #[.agg #[.int .i64 0, .int .i64 0, .int .i64 0, .slice none 0 0, .slice none 0 0], .int .i64 er]) ∧ Below W.heap.size W w') : Calls Try.prog 4 #[sv] w fun e w' => e = .returned (.bool true) ∧ Below w.heap.size w w' := by
  have HC9 : Calls Try.prog 9 #[] w fun e w' => e = .returned (.bool true) ∧ Hid (Below w.heap.size w w') := anchor_any w
  have HC15 : ∀ W, Hid (Below w.heap.size w W) → Calls Try.prog 15 #[sv] W fun e w' => e = .returned (.tuple #[.agg #[.int .i64 0, .int .i64 0, .int .i64 0, .slice none 0 0, .slice none 0 0], .int .i64 er]) ∧ Hid (Below w.heap.size w w') := fun W h => (hD W h.out).mono (by rintro e w' ⟨rfl, hb⟩; exact ⟨rfl, h.out.trans (bel_le hb h.out.size)⟩)
  have HC17 : ∀ W b, Hid (St9 w W b #[.int .i64 0, .int .i64 0, .int .i64 0, .slice none 0 0, .slice none 0 0]) → Calls Try.prog 17 #[sv] W fun e w' => e = .returned (.tuple #[.agg #[.int .i64 0, .int .i64 0, .int .i64 0, .slice none 0 0, .slice none 0 0], .int .i64 er]) ∧ Hid (St9 w w' b #[.int .i64 0, .int .i64 0, .int .i64 0, .slice none 0 0, .slice none 0 0]) := fun W b h => (hR W h.out.bel).mono (by rintro e w' ⟨rfl, hb⟩; exact ⟨rfl, h.out.step hb⟩)
  have HC16 : ∀ W b, Hid (St9 w W b #[.int .i64 0, .int .i64 0, .int .i64 0, .slice none 0 0, .slice none 0 0]) → Calls Try.prog 16 #[.agg #[.int .i64 0, .int .i64 0, .int .i64 0, .slice none 0 0, .slice none 0 0], .agg #[.int .i64 0, .int .i64 0, .int .i64 0, .slice none 0 0, .slice none 0 0]] W fun e w' => e = .returned (.bool true) ∧ Hid (St9 w w' b #[.int .i64 0, .int .i64 0, .int .i64 0, .slice none 0 0, .slice none 0 0]) ∧ w'.cell? ⟨b, 0, none⟩ = some (.int .i64 0) ∧ w'.cell? ⟨b, 1, none⟩ = some (.int .i64 0) ∧ w'.cell? ⟨b, 2, none⟩ = some (.int .i64 0) ∧ w'.cell? ⟨b, 3, none⟩ = some (.slice none 0 0) ∧ w'.cell? ⟨b, 4, none⟩ = some (.slice none 0 0) := fun W b h => (rSame_any ⟨0, 0, 0, [], []⟩ ⟨0, 0, 0, [], []⟩ _ _ W (zero_is W) (zero_is W)).mono (by rintro e w' ⟨rfl, hb⟩; exact ⟨by rw [(same_iff _ _).2 rfl], h.out.step hb, (h.out.step hb).cells⟩)
  have HC11 : ∀ W b, Hid (St9 w W b #[.int .i64 0, .int .i64 0, .int .i64 0, .slice none 0 0, .slice none 0 0]) → Calls Try.prog 11 #[.agg #[.int .i64 0, .int .i64 0, .int .i64 0, .slice none 0 0, .slice none 0 0]] W fun e w' => e = .returned (.tuple #[.slice none 0 0, .int .i64 10]) ∧ Hid (Below w.heap.size w w') := fun W b h => (Encode_any ⟨0, 0, 0, [], []⟩ _ W (zero_is W)).mono (by
    rintro e w' ⟨hb, ⟨h2, _⟩ | ⟨h2, _⟩ | ⟨_, rfl⟩⟩
    · cases h2
    · cases h2
    · exact ⟨rfl, h.out.bel.trans (bel_le hb h.out.bel.size)⟩)
  have HST : Hid (∀ W, Below w.heap.size w W → St9 w (W.alloc (.cells #[.int .i64 0, .int .i64 0, .int .i64 0, .slice none 0 0, .slice none 0 0] 25)) W.heap.size #[.int .i64 0, .int .i64 0, .int .i64 0, .slice none 0 0, .slice none 0 0]) := fun W h => ⟨h.trans (bel_alloc h.size _), heap_alloc_new W _⟩
  obtain ⟨sq, sc, rfl, -⟩ := hs.slice
  have h1 : ¬ (33000 : Int) < (l.length : Int) := by omega
  have z1 : (er == 0) = false := by simp [hz]
  have z2 : (er == er) = true := by simp
  have h2 : (l.length : Int) ≤ 33000 := by omega
  clear hs hl hD hR
  generalize l.length = ln at *
  go_enter Try.func4, Try.ntmps4
  go_wp2_with (first | (go_at_call 9; refine HC9.mono ?_; rintro e w1 ⟨rfl, B1⟩) | (go_at_call 15; refine (HC15 _ B1).mono ?_; rintro e w2 ⟨rfl, B2⟩))
  have S2 : Hid (St9 w (w2.alloc (.cells #[.int .i64 0, .int .i64 0, .int .i64 0, .slice none 0 0, .slice none 0 0] 25)) w2.heap.size #[.int .i64 0, .int .i64 0, .int .i64 0, .slice none 0 0, .slice none 0 0]) := HST.out w2 B2.out
  clear HST HC15 HC9 B1 B2
  generalize w2.alloc (.cells #[.int .i64 0, .int .i64 0, .int .i64 0, .slice none 0 0, .slice none 0 0] 25) = W2 at *
  generalize w2.heap.size = b3 at *
  refine (HC17 _ _ S2).mono ?_
  rintro e w3 ⟨rfl, S3⟩
  have S4 : Hid (St9 w (w3.alloc (.cells #[.int .i64 0, .int .i64 0, .int .i64 0, .slice none 0 0, .slice none 0 0] 28)) b3 #[.int .i64 0, .int .i64 0, .int .i64 0, .slice none 0 0, .slice none 0 0]) := S3.out.step (bel_alloc (Nat.le_refl _) _)
  obtain ⟨d0, d1, d2, d3, d4⟩ := S4.out.cells
  go_wp2_with fail
  refine (HC16 _ _ S4).mono ?_
  rintro e w4 ⟨rfl, S5, e0, e1, e2, e3, e4⟩
  clear d0 d1 d2 d3 d4
  go_wp2_with (first | (go_at_call 11; refine (HC11 _ _ S5).mono ?_; rintro e w5 ⟨rfl, B6⟩))
  go_ret
  exact ⟨rfl, B6.out⟩
set_option maxHeartbeats 8000000 in
theorem dcw_yes (sv : Value) (l : List Nat) (w : World) (hs : Src w sv l) (hl : l.length ≤ 33000) (F : Fr) (hr : right F = true) (hb : bytes F = l) (hl2 : l.length ≤ 32768) (hD : ∀ W, Below w.heap.size w W → Calls Try.prog 15 #[sv] W fun e w' => ∃ v, e = .returned (.tuple #[v, .int .i64 0]) ∧ FrIs w' v F ∧ Below W.heap.size W w') (hR : ∀ W, Below w.heap.size w W → Calls Try.prog 17 #[sv] W fun e w' => ∃ v, e = .returned (.tuple #[v, .int .i64 0]) ∧ FrIs w' v F ∧ Below W.heap.size W w') : Calls Try.prog 4 #[sv] w fun e w' => e = .returned (.bool true) ∧ Below w.heap.size w w' := by
  have HC9 : Calls Try.prog 9 #[] w fun e w' => e = .returned (.bool true) ∧ Hid (Below w.heap.size w w') := anchor_any w
  have HC15 : ∀ W, Hid (Below w.heap.size w W) → Calls Try.prog 15 #[sv] W fun e w' => ∃ q c sp sc, e = .returned (.tuple #[.agg (FrV F q c sp sc), .int .i64 0]) ∧ Hid (FrIs w' (.agg (FrV F q c sp sc)) F) ∧ Hid (Below w.heap.size w w') := fun W h => (hD W h.out).mono (by
    rintro e w' ⟨v, rfl, hv, hb⟩
    have hv' := hv
    obtain ⟨q, c, sp, sc, rfl, -⟩ := hv
    exact ⟨q, c, sp, sc, rfl, hv', h.out.trans (bel_le hb h.out.size)⟩)
  have HC17 : ∀ W q c sp sc b, Hid (St9 w W b (FrV F q c sp sc) ∧ FrIs W (.agg (FrV F q c sp sc)) F) → Calls Try.prog 17 #[sv] W fun e w' => ∃ q' c' sp' sc', e = .returned (.tuple #[.agg (FrV F q' c' sp' sc'), .int .i64 0]) ∧ Hid (FrIs w' (.agg (FrV F q' c' sp' sc')) F) ∧ Hid (St9 w w' b (FrV F q c sp sc) ∧ FrIs w' (.agg (FrV F q c sp sc)) F) := fun W q c sp sc b h => (hR W h.out.1.bel).mono (by
    rintro e w' ⟨v, rfl, hv, hb⟩
    have hv' := hv
    obtain ⟨q', c', sp', sc', rfl, -⟩ := hv
    exact ⟨q', c', sp', sc', rfl, hv', h.out.1.step hb, h.out.2.below hb⟩)
  have HC16 : ∀ W q c sp sc q' c' sp' sc' b, Hid (St9 w W b (FrV F q c sp sc) ∧ FrIs W (.agg (FrV F q c sp sc)) F) → Hid (FrIs W (.agg (FrV F q' c' sp' sc')) F) → Calls Try.prog 16 #[.agg (FrV F q c sp sc), .agg (FrV F q' c' sp' sc')] W fun e w' => e = .returned (.bool true) ∧ Hid (St9 w w' b (FrV F q c sp sc) ∧ FrIs w' (.agg (FrV F q c sp sc)) F) := fun W q c sp sc q' c' sp' sc' b h h2 => (rSame_any F F _ _ W h.out.2 h2.out).mono (by rintro e w' ⟨rfl, hb⟩; exact ⟨by rw [(same_iff _ _).2 rfl], h.out.1.step hb, h.out.2.below hb⟩)
  have HC11 : ∀ W q c sp sc b, Hid (St9 w W b (FrV F q c sp sc) ∧ FrIs W (.agg (FrV F q c sp sc)) F) → Calls Try.prog 11 #[.agg (FrV F q c sp sc)] W fun e w' => ∃ vq vc, e = .returned (.tuple #[.slice vq l.length vc, .int .i64 0]) ∧ Hid (Src w' (.slice vq l.length vc) l) ∧ Hid (Below w.heap.size w w') := fun W q c sp sc b h => (Encode_any F _ W h.out.2).mono (by
    rintro e w' ⟨hb2, ⟨_, _, v, rfl, ho⟩ | ⟨_, h2, _⟩ | ⟨h2, _⟩⟩
    · obtain ⟨vq, vc, rfl⟩ := own_slice ho
      rw [hb] at ho
      exact ⟨vq, vc, by rw [hb], Src.own hs.small ho, h.out.1.bel.trans (bel_le hb2 h.out.1.bel.size)⟩
    · rw [hb] at h2; omega
    · rw [hr] at h2; cases h2)
  have HST : Hid (∀ W C, Below w.heap.size w W → St9 w (W.alloc (.cells C 25)) W.heap.size C) := fun W C h => ⟨h.trans (bel_alloc h.size _), heap_alloc_new W _⟩
  have HCV : Hid (∀ W v, Src W v l → (convert 23 9 v).run Try.prog W = .ok (.string (strB l)) W) := fun W v h => conv_src h
  have HSV : Hid (Src w sv l) := hs
  obtain ⟨sq, sc0, rfl, -⟩ := hs.slice
  have h1 : ¬ (33000 : Int) < (l.length : Int) := by omega
  have h2 : (l.length : Int) ≤ 33000 := by omega
  clear hs hl hD hR hb hr hl2
  generalize strB l = sl at *
  generalize l.length = ln at *
  obtain ⟨k, cl, i, ls, t⟩ := F
  simp only [FrV] at HC15 HC17 HC16 HC11
  generalize ls.length = n at *
  generalize t.length = m at *
  go_enter Try.func4, Try.ntmps4
  go_wp2_with (first | (go_at_call 9; refine HC9.mono ?_; rintro e w1 ⟨rfl, B1⟩) | (go_at_call 15; refine (HC15 _ B1).mono ?_; rintro e w2 ⟨q, c, sp, sc, rfl, F2, B2⟩))
  have S2 : Hid (St9 w (w2.alloc (.cells #[.int .i64 k, .int .i64 cl, .int .i64 i, .slice q n c, .slice sp m sc] 25)) w2.heap.size #[.int .i64 k, .int .i64 cl, .int .i64 i, .slice q n c, .slice sp m sc] ∧ FrIs (w2.alloc (.cells #[.int .i64 k, .int .i64 cl, .int .i64 i, .slice q n c, .slice sp m sc] 25)) (.agg #[.int .i64 k, .int .i64 cl, .int .i64 i, .slice q n c, .slice sp m sc]) ⟨k, cl, i, ls, t⟩) := ⟨HST.out w2 _ B2.out, F2.out.below (bel_alloc (Nat.le_refl _) _)⟩
  clear HST HC15 HC9 B1 B2 F2
  generalize w2.alloc (.cells #[.int .i64 k, .int .i64 cl, .int .i64 i, .slice q n c, .slice sp m sc] 25) = W2 at *
  generalize w2.heap.size = b3 at *
  refine (HC17 _ _ _ _ _ _ S2).mono ?_
  rintro e w3 ⟨q', c', sp', sc', rfl, F3, S3⟩
  have hal : Below w3.heap.size w3 (w3.alloc (.cells #[.int .i64 k, .int .i64 cl, .int .i64 i, .slice q' n c', .slice sp' m sc'] 28)) := bel_alloc (Nat.le_refl _) _
  have S4 : Hid (St9 w (w3.alloc (.cells #[.int .i64 k, .int .i64 cl, .int .i64 i, .slice q' n c', .slice sp' m sc'] 28)) b3 #[.int .i64 k, .int .i64 cl, .int .i64 i, .slice q n c, .slice sp m sc] ∧ FrIs (w3.alloc (.cells #[.int .i64 k, .int .i64 cl, .int .i64 i, .slice q' n c', .slice sp' m sc'] 28)) (.agg #[.int .i64 k, .int .i64 cl, .int .i64 i, .slice q n c, .slice sp m sc]) ⟨k, cl, i, ls, t⟩) := ⟨S3.out.1.step hal, S3.out.2.below hal⟩
  have F4 : Hid (FrIs (w3.alloc (.cells #[.int .i64 k, .int .i64 cl, .int .i64 i, .slice q' n c', .slice sp' m sc'] 28)) (.agg #[.int .i64 k, .int .i64 cl, .int .i64 i, .slice q' n c', .slice sp' m sc']) ⟨k, cl, i, ls, t⟩) := F3.out.below hal
  clear hal S3 F3 S2 HC17
  obtain ⟨d0, d1, d2, d3, d4⟩ := S4.out.1.cells
  go_wp2_with fail
  refine (HC16 _ _ _ _ _ _ _ _ _ _ S4 F4).mono ?_
  rintro e w4 ⟨rfl, S5⟩
  clear d0 d1 d2 d3 d4 S4 F4 HC16
  obtain ⟨d0, d1, d2, d3, d4⟩ := S5.out.1.cells
  go_wp2_with fail
  refine (HC11 _ _ _ _ _ _ S5).mono ?_
  rintro e w5 ⟨vq, vc, rfl, X6, B6⟩
  have cv1 := HCV.out _ _ X6.out
  have cv2 := HCV.out _ _ (HSV.out.below B6.out)
  go_wp2_with fail
  go_ret
  exact ⟨rfl, B6.out⟩
theorem decodes_any (a : Option Addr) (n c : Nat) (w : World) (hrow : RowIs w a n c) : Calls Try.prog 4 #[.slice a n c] w fun e w' => e = .returned (.bool true) ∧ Below w.heap.size w w' := by
  have hm := hrow.max
  obtain ⟨l, rfl, hs⟩ := Src.of hrow
  by_cases hl : 33000 < l.length
  · exact dcw_long _ l w hs hl hm
  · by_cases hl2 : 32768 < l.length
    · refine dcw_no _ l w hs (by omega) 11 (by decide) (fun W h => ?_) (fun W h => ?_)
      · refine (Decode_any _ l W (hs.below h)).mono ?_
        rintro e w' ⟨hb, ⟨_, rfl⟩ | ⟨h2, _⟩⟩
        · exact ⟨rfl, hb⟩
        · omega
      · refine (rRead_any _ l W (hs.below h)).mono ?_
        rintro e w' ⟨hb, ⟨_, rfl⟩ | ⟨h2, _⟩⟩
        · exact ⟨rfl, hb⟩
        · omega
    · cases hd : dec l with
      | none =>
        refine dcw_no _ l w hs (by omega) 10 (by decide) (fun W h => ?_) (fun W h => ?_)
        · refine (Decode_any _ l W (hs.below h)).mono ?_
          rintro e w' ⟨hb, ⟨h2, _⟩ | ⟨_, ⟨F, v, h3, _⟩ | ⟨_, rfl⟩⟩⟩
          · omega
          · rw [hd] at h3; cases h3
          · exact ⟨rfl, hb⟩
        · refine (rRead_any _ l W (hs.below h)).mono ?_
          rintro e w' ⟨hb, ⟨h2, _⟩ | ⟨_, ⟨F, v, h3, _⟩ | ⟨_, rfl⟩⟩⟩
          · omega
          · rw [hd] at h3; cases h3
          · exact ⟨rfl, hb⟩
      | some F =>
        obtain ⟨hr, hbf⟩ := (dec_iff l hs.small F).1 hd
        refine dcw_yes _ l w hs (by omega) F hr hbf (by omega) (fun W h => ?_) (fun W h => ?_)
        · refine (Decode_any _ l W (hs.below h)).mono ?_
          rintro e w' ⟨hb, ⟨h2, _⟩ | ⟨_, ⟨F', v, h3, rfl, hn⟩ | ⟨h3, _⟩⟩⟩
          · omega
          · rw [hd] at h3
            obtain rfl := Option.some.inj h3
            exact ⟨v, rfl, hn.is, hb⟩
          · rw [hd] at h3; cases h3
        · refine (rRead_any _ l W (hs.below h)).mono ?_
          rintro e w' ⟨hb, ⟨h2, _⟩ | ⟨_, ⟨F', v, h3, rfl, hn⟩ | ⟨h3, _⟩⟩⟩
          · omega
          · rw [hd] at h3
            obtain rfl := Option.some.inj h3
            exact ⟨v, rfl, hn, hb⟩
          · rw [hd] at h3; cases h3
end Go.Proofs.Ytmllecdbedighaa.F17
