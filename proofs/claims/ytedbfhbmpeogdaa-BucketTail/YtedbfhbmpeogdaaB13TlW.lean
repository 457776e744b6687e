/- The walk of BucketTail. -/
import Derived.Test.YtedbfhbmpeogdaaB13Anc
import Derived.Test.YtedbfhbmpeogdaaB13RSt
import Derived.Test.YtedbfhbmpeogdaaB13Zr
import Derived.Test.YtedbfhbmpeogdaaC8Args
import Derived.Laws.BitsAllLaws
namespace Go.Proofs.Ytedbfhbmpeogdaa.C8
open Go.RowKit
/-- A text that stands in twice its bucket. -/
theorem twice_wrong {l : List Nat} (h : l.length ≤ 2046) : ¬ Right (padL l ++ List.replicate (bsz l.length) 0) := by
  rintro ⟨_, h2, _⟩
  have hb := bsz_le h
  have e : cnt (padL l ++ List.replicate (bsz l.length) 0) = l.length := by
    rw [← cnt_pad l]
    rfl
  rw [e, List.length_append, padL_length h, List.length_replicate] at h2
  omega
/-- A byte of the tail is turned. -/
theorem turned_wrong {l : List Nat} {i x : Nat} (h : l.length ≤ 2046) (h1 : 2 + l.length ≤ i) (h2 : i < bsz l.length) (hx : x ≠ 0) : ¬ Right ((padL l).set i x) := by
  rintro ⟨_, _, h3⟩
  have hlen := padL_length h
  obtain ⟨k, rfl⟩ : ∃ k, i = 2 + k := ⟨i - 2, by omega⟩
  have e : cnt ((padL l).set (2 + k) x) = l.length := by
    rw [← cnt_pad l, Nat.add_comm 2 k]
    rfl
  unfold tailL at h3
  rw [e] at h3
  apply hx
  apply h3
  rw [List.mem_iff_getElem?]
  refine ⟨k - l.length, ?_⟩
  rw [List.getElem?_drop, show 2 + l.length + (k - l.length) = 2 + k by omega, List.getElem?_set_self (by omega)]
theorem nth_tail {l : List Nat} {i : Nat} (h1 : 2 + l.length ≤ i) (h2 : i < bsz l.length) : Sp.nth (padL l) i = 0 := by
  obtain ⟨k, rfl⟩ : ∃ k, i = l.length + k + 1 + 1 := ⟨i - 2 - l.length, by omega⟩
  have e : Sp.nth (padL l) (l.length + k + 1 + 1) = Sp.nth (l ++ List.replicate (bsz l.length - 2 - l.length) 0) (l.length + k) := by
    simp [padL, Sp.nth]
  rw [e, Sp.nth_append_right]
  simp only [Sp.nth, List.getD_eq_getElem?_getD, List.getElem?_replicate]
  split <;> rfl
theorem tail_skips (p : Option Addr) (n c : Nat) (i x : Int) (w : World) (h : 2046 < n ∨ i < 0 ∨ x = 0) (hn : n ≤ 9223372036854775807) :
    Calls Try.prog 7 #[.slice p n c, .int .i64 i, .int .u8 x] w fun e w' => e = .returned (.bool true) ∧ Below w.heap.size w w' := by
  by_cases h1 : 2046 < n
  · have n1 : (2046 : Int) < (n : Int) := by omega
    clear h
    go_enter Try.func7, Try.ntmps7
    go_wp2_with fail
    refine (anchor_any _).mono ?_
    rintro e w0 ⟨rfl, b0⟩
    have B0 : Hid (Below w.heap.size w w0) := b0
    clear b0
    go_wp2_with fail
    go_ret
    exact ⟨rfl, B0.out⟩
  · have n1 : (n : Int) ≤ 2046 := by omega
    by_cases h2 : i < 0
    · clear h
      go_enter Try.func7, Try.ntmps7
      go_wp2_with fail
      refine (anchor_any _).mono ?_
      rintro e w0 ⟨rfl, b0⟩
      have B0 : Hid (Below w.heap.size w w0) := b0
      clear b0
      go_wp2_with fail
      go_ret
      exact ⟨rfl, B0.out⟩
    · have h3 : x = 0 := by omega
      have h4 : 0 ≤ i := by omega
      subst h3
      clear h
      go_enter Try.func7, Try.ntmps7
      go_wp2_with fail
      refine (anchor_any _).mono ?_
      rintro e w0 ⟨rfl, b0⟩
      have B0 : Hid (Below w.heap.size w w0) := b0
      clear b0
      go_wp2_with fail
      go_ret
      exact ⟨rfl, B0.out⟩
set_option maxHeartbeats 4000000 in
theorem tail_main {l : List Nat} (p : Option Addr) (n c i x : Nat) (w : World) (hs : Src w (.slice p n c) l) (hl : l.length = n) (hn : n ≤ 2046) (hi : (i : Int) ≤ 9223372036854775807) (hx : x ≠ 0) (hx2 : x < 256) :
    Calls Try.prog 7 #[.slice p n c, .int .i64 (i : Int), .int .u8 (x : Int)] w fun e w' => e = .returned (.bool true) ∧ Below w.heap.size w w' := by
  have n1 : (n : Int) ≤ 2046 := by omega
  have i0 : (0 : Int) ≤ (i : Int) := by omega
  have x0 : ¬ (x : Int) = 0 := by omega
  have x1 : ((x : Int) == 0) = false := by rw [beq_eq_false_iff_ne]; exact x0
  have hbz := bsz_le hn
  have HS : Hid (Src w (.slice p n c) l) := hs
  have HSP : Hid (∀ x ∈ padL l, x < 256) := padL_lt (by omega) hs.small
  have HPL : Hid ((padL l).length = bsz n) := by rw [← hl]; exact padL_length (by omega)
  have HPD : Hid (∀ W, Src W (.slice p n c) l → Calls Try.prog 10 #[.slice p n c] W fun e w' => e = .returned (.tuple #[.slice (some ⟨W.heap.size, 0, none⟩) (bsz n) (bsz n), .int .i64 0]) ∧ w'.ownsRow W.heap.size 5 1 (.slice (some ⟨W.heap.size, 0, none⟩) (bsz n) (bsz n)) (bsz n) (ints .u8 (padL l)) ∧ Below W.heap.size W w') := fun W h => Pad_ok p n c W h hl hn
  have HTW : Hid (∀ W v, Src W v (padL l ++ List.replicate (bsz n) 0) → Calls Try.prog 11 #[v] W fun e w' => e = .returned (.tuple #[.slice none 0 0, .int .i64 10]) ∧ Below W.heap.size W w') := fun W v h =>
    strip_no v W h (by rw [List.length_append, HPL.out, List.length_replicate]; omega) (by rw [← hl]; exact twice_wrong (by omega))
  have HTU : Hid (∀ k, 2 + n ≤ k → k < bsz n → ∀ W v, Src W v ((padL l).set k x) → Calls Try.prog 11 #[v] W fun e w' => e = .returned (.tuple #[.slice none 0 0, .int .i64 10]) ∧ Below W.heap.size W w') := fun k h1 h2 W v h =>
    strip_no v W h (by rw [List.length_set, HPL.out]; omega) (turned_wrong (by omega) (by omega) (by rw [hl]; exact h2) hx)
  have HNT : Hid (∀ k, 2 + n ≤ k → k < bsz n → Sp.nth (padL l) k = 0) := fun k h1 h2 => nth_tail (by omega) (by rw [hl]; exact h2)
  generalize bsz n = s at *
  have s1 : (s : Int) ≤ 2048 := by omega
  have s2 : (n : Int) + 2 ≤ (s : Int) := by omega
  have HSB : Hid (s ≤ 2048 ∧ n + 2 ≤ s) := ⟨hbz.2.1, hbz.1⟩
  have HX2 : Hid (x < 256) := hx2
  have hxor : bits .xor .u8 (0 : Int) (x : Int) = (x : Int) := by
    have := u8_xor_nat 0 x (by decide) hx2
    rw [Nat.zero_xor] at this
    exact this
  clear hs hl hn hbz hx hx2
  by_cases ht : n + 2 = s
  · have t1 : ¬ (0 : Int) < (s : Int) - 2 - (n : Int) := by omega
    go_enter Try.func7, Try.ntmps7
    go_wp2_with fail
    refine (anchor_any _).mono ?_
    rintro e w0 ⟨rfl, b0⟩
    have B0 : Hid (Below w.heap.size w w0) := b0
    clear b0
    go_wp2_with fail
    refine (HPD.out _ (HS.out.below B0.out)).mono ?_
    rintro e w1 ⟨rfl, ho1, b1⟩
    have HP1 : Hid (w1.ownsRow w0.heap.size 5 1 (.slice (some ⟨w0.heap.size, 0, none⟩) s s) s (ints .u8 (padL l))) := ho1
    have B1 : Hid (Below w.heap.size w w1) := B0.out.trans (b1.mono B0.out.size)
    clear ho1 b1
    go_wp2_with (first | with_reducible (refine stop_builtin .append ?_))
    refine Stop.go ?_
    have hbA : Below w1.heap.size w1 (w1.alloc (.cells #[] 5)) := (Below.refl _ _).alloc (Nat.le_refl _) _
    refine law_append_grow w1.heap.size _ 0 [] _ (padL l) rfl rfl (own_built w1) ((Src.own HSP.out HP1.out).below hbA) (by rw [HPL.out]; have := HSB.out; omega) (by simp) ?_
    intro y w2 h2 g2
    have hb2 : Below w1.heap.size w1 w2 := hbA.trans (g2.below (own_built w1) (by simp))
    have HQ2 : Hid (w2.ownsRow w1.heap.size 5 1 y s (ints .u8 (padL l))) := by
      rw [Nat.zero_add, HPL.out] at h2
      exact h2
    have HB2 : Hid (Below w1.heap.size w1 w2) := hb2
    clear h2 g2 hbA hb2
    obtain ⟨qy, cy, rfl⟩ := own_slice HQ2.out
    go_wp2_with (first | with_reducible (refine stop_builtin .append ?_))
    refine Stop.go ?_
    refine law_append_noughts w1.heap.size (.slice qy s cy) s (ints .u8 (padL l)) s rfl rfl HQ2.out (by have := HSB.out; omega) HB2.out.size ?_
    intro z w3 h3 g3
    have HB3 : Hid (Below w1.heap.size w1 w3) := HB2.out.trans (below_append HQ2.out g3 HB2.out.size)
    have HZ3 : Hid (Src w3 z (padL l ++ List.replicate s 0)) := by
      rw [← ints_append] at h3
      exact Src.own (fun y hy => by
        rcases List.mem_append.1 hy with h | h
        · exact HSP.out y h
        · rw [(List.mem_replicate.1 h).2]; decide) h3
    obtain ⟨qz, cz, rfl⟩ := own_slice h3
    clear h3 g3 HQ2 HB2
    go_wp2_with fail
    refine (HTW.out _ _ HZ3.out).mono ?_
    rintro e w5 ⟨rfl, b5⟩
    have hb5 : Below w1.heap.size w1 w5 := HB3.out.trans (b5.mono HB3.out.size)
    have HP5 : Hid (w5.ownsRow w0.heap.size 5 1 (.slice (some ⟨w0.heap.size, 0, none⟩) s s) s (ints .u8 (padL l))) := own_keep HP1.out hb5
    have B5 : Hid (Below w.heap.size w w5) := B1.out.trans (hb5.mono B1.out.size)
    clear b5 hb5 HB3 HZ3 HP1 B1
    go_wp2_with fail
    go_ret
    exact ⟨rfl, B5.out⟩
  · obtain ⟨r, HR⟩ : ∃ r, Hid (i % (s - 2 - n) = r) := ⟨_, rfl⟩
    have hr0 : r < s - 2 - n := by rw [← HR.out]; exact Nat.mod_lt _ (by omega)
    have t0 : ((s - 2 - n : Nat) : Int) = (s : Int) - 2 - (n : Int) := by omega
    have r1 : (i : Int) % ((s : Int) - 2 - (n : Int)) = (r : Int) := by
      rw [← t0, ← HR.out]
      exact (Int.natCast_emod _ _).symm
    have r2 : (i : Int).tmod ((s : Int) - 2 - (n : Int)) = (r : Int) := by
      rw [Int.tmod_eq_emod_of_nonneg (by omega)]
      exact r1
    have t1 : (0 : Int) < (s : Int) - 2 - (n : Int) := by omega
    have t2 : ¬ (s : Int) - 2 - (n : Int) = 0 := by omega
    have t3 : (2 : Int) + (n : Int) + (r : Int) < (s : Int) := by omega
    have t4 : (0 : Int) ≤ (r : Int) := by omega
    obtain ⟨k, HK⟩ : ∃ k, Hid (2 + n + r = k) := ⟨_, rfl⟩
    have hk1 : 2 + n ≤ k := by have := HK.out; omega
    have hk2 : k < s := by have := HK.out; omega
    have t5 : (2 : Int) + (n : Int) + (r : Int) = (k : Int) := by have := HK.out; omega
    have t6 : (k : Int) < (s : Int) := by omega
    have t7 : (0 : Int) ≤ (k : Int) := by omega
    clear t0 hr0
    go_enter Try.func7, Try.ntmps7
    go_wp2_with fail
    refine (anchor_any _).mono ?_
    rintro e w0 ⟨rfl, b0⟩
    have B0 : Hid (Below w.heap.size w w0) := b0
    clear b0
    go_wp2_with fail
    refine (HPD.out _ (HS.out.below B0.out)).mono ?_
    rintro e w1 ⟨rfl, ho1, b1⟩
    have HP1 : Hid (w1.ownsRow w0.heap.size 5 1 (.slice (some ⟨w0.heap.size, 0, none⟩) s s) s (ints .u8 (padL l))) := ho1
    have B1 : Hid (Below w.heap.size w w1) := B0.out.trans (b1.mono B0.out.size)
    clear ho1 b1
    go_wp2_with (first | with_reducible (refine stop_builtin .append ?_))
    refine Stop.go ?_
    have hbA : Below w1.heap.size w1 (w1.alloc (.cells #[] 5)) := (Below.refl _ _).alloc (Nat.le_refl _) _
    refine law_append_grow w1.heap.size _ 0 [] _ (padL l) rfl rfl (own_built w1) ((Src.own HSP.out HP1.out).below hbA) (by rw [HPL.out]; have := HSB.out; omega) (by simp) ?_
    intro y w2 h2 g2
    have hb2 : Below w1.heap.size w1 w2 := hbA.trans (g2.below (own_built w1) (by simp))
    have HQ2 : Hid (w2.ownsRow w1.heap.size 5 1 y s (ints .u8 (padL l))) := by
      rw [Nat.zero_add, HPL.out] at h2
      exact h2
    have HB2 : Hid (Below w1.heap.size w1 w2) := hb2
    clear h2 g2 hbA hb2
    obtain ⟨qy, cy, rfl⟩ := own_slice HQ2.out
    go_wp2_with (first | with_reducible (refine stop_builtin .append ?_))
    refine Stop.go ?_
    refine law_append_noughts w1.heap.size (.slice qy s cy) s (ints .u8 (padL l)) s rfl rfl HQ2.out (by have := HSB.out; omega) HB2.out.size ?_
    intro z w3 h3 g3
    have HB3 : Hid (Below w1.heap.size w1 w3) := HB2.out.trans (below_append HQ2.out g3 HB2.out.size)
    have HZ3 : Hid (Src w3 z (padL l ++ List.replicate s 0)) := by
      rw [← ints_append] at h3
      exact Src.own (fun y hy => by
        rcases List.mem_append.1 hy with h | h
        · exact HSP.out y h
        · rw [(List.mem_replicate.1 h).2]; decide) h3
    obtain ⟨qz, cz, rfl⟩ := own_slice h3
    clear h3 g3 HQ2 HB2
    go_wp2_with fail
    refine (HTW.out _ _ HZ3.out).mono ?_
    rintro e w5 ⟨rfl, b5⟩
    have hb5 : Below w1.heap.size w1 w5 := HB3.out.trans (b5.mono HB3.out.size)
    have HP5 : Hid (w5.ownsRow w0.heap.size 5 1 (.slice (some ⟨w0.heap.size, 0, none⟩) s s) s (ints .u8 (padL l))) := own_keep HP1.out hb5
    have B5 : Hid (Below w.heap.size w w5) := B1.out.trans (hb5.mono B1.out.size)
    clear b5 hb5 HB3 HZ3 HP1 B1
    have ho5 : w5.ownsRow w0.heap.size 5 1 (.slice (some ⟨w0.heap.size, 0, none⟩) s s) s (ints .u8 (padL l)) := HP5.out
    have hcell : w5.cell? ⟨w0.heap.size, k, none⟩ = some (.int .u8 0) := by
      have := own_at ho5 k hk2
      rw [HNT.out k hk1 hk2] at this
      exact this
    have hmay := own_may ho5 k
    have HP6 : Hid (Src (w5.setCell ⟨w0.heap.size, k, none⟩ (.int .u8 (x : Int))) (.slice (some ⟨w0.heap.size, 0, none⟩) s s) ((padL l).set k x)) := Src.own (fun y hy => by
      rcases List.mem_or_eq_of_mem_set hy with h | h
      · exact HSP.out y h
      · rw [h]; exact HX2.out) (own_set ho5)
    have B6 : Hid (Below w.heap.size w (w5.setCell ⟨w0.heap.size, k, none⟩ (.int .u8 (x : Int)))) := B5.out.setCell B0.out.size _
    clear ho5
    go_wp2_with fail
    refine (HTU.out k hk1 hk2 _ _ HP6.out).mono ?_
    rintro e w7 ⟨rfl, b7⟩
    have B7 : Hid (Below w.heap.size w w7) := B6.out.trans (b7.mono B6.out.size)
    clear b7
    go_wp2_with fail
    go_ret
    exact ⟨rfl, B7.out⟩
theorem tail_any (p : Option Addr) (i x : Int) (n c : Nat) (w : World) (h1 : RowIs w p n c) (hi : (Lit.int .i64 i).wf = true) (hx : (Lit.int .u8 x).wf = true) : Calls Try.prog 7 #[.slice p n c, .int .i64 i, .int .u8 x] w fun e w' => e = .returned (.bool true) ∧ Below w.heap.size w w' := by
  by_cases h : 2046 < n ∨ i < 0 ∨ x = 0
  · exact tail_skips p n c i x w h h1.max
  · obtain ⟨l, hl, hs⟩ := Src.of h1
    have hi2 := wf_i64 hi
    have hx2 : 0 ≤ x ∧ x ≤ 255 := by
      simp [Lit.wf, IntKind.min, IntKind.max, IntKind.bits, IntKind.signed] at hx
      omega
    obtain ⟨i', rfl⟩ := Int.eq_ofNat_of_zero_le (show 0 ≤ i by omega)
    obtain ⟨x', rfl⟩ := Int.eq_ofNat_of_zero_le hx2.1
    exact tail_main p n c i' x' w hs hl (by omega) (by omega) (by omega) (by omega)
end Go.Proofs.Ytedbfhbmpeogdaa.C8
