/- The contract of Pad. -/
import Derived.Test.YtfjdaafckiefdaaGreatDoorMgB
namespace Go.Proofs.YtfjdaafckiefdaaGreatDoor.C8
open Go.RowKit
theorem info5 : (Tryz.prog.info? 5).map (·.size) = some 1 := by kernel_rfl
theorem own_whole {w : World} {base g n : Nat} {l : List Nat} (h : w.ownsRow base 5 1 (.slice (some ⟨g, 0, none⟩) n n) n (ints .u8 l)) : w.heap[g]? = some (.cells (ints .u8 l).toArray 5 (0, 0)) := by
  obtain ⟨h1, ⟨e, _⟩ | ⟨g', cap, cur, e, hb, hh, hn, hm, hs, ht⟩⟩ := h
  · cases e
  · cases e
    rw [hh, ← ht, List.take_of_length_le (by rw [Array.length_toList]; omega)]
theorem whole_own {w : World} {base g n : Nat} {l : List Nat} (h : w.heap[g]? = some (.cells (ints .u8 l).toArray 5 (0, 0))) (hl : l.length = n) (hn : n ≤ 100000) (hb : base ≤ g) : w.ownsRow base 5 1 (.slice (some ⟨g, 0, none⟩) n n) n (ints .u8 l) :=
  ⟨by rw [ints_length, hl, Nat.mul_one], .inr ⟨g, n, (ints .u8 l).toArray, rfl, hb, h, Nat.le_refl _, by unfold maxLen; omega, by simp [ints_length, hl], by
    rw [Nat.mul_one, List.take_of_length_le (by rw [ints_length]; omega)]⟩⟩
theorem pad_cells {n s : Nat} {l : List Nat} (hl : l.length = n) (hs : n + 2 ≤ s) :
    splice (ints .u8 (((List.replicate s 0).set 0 (n / 256)).set 1 (n % 256))) 2 (ints .u8 l) = ints .u8 (n / 256 :: n % 256 :: (l ++ List.replicate (s - 2 - n) 0)) := by
  obtain ⟨k, rfl⟩ : ∃ k, s = n + 2 + k := ⟨s - (n + 2), by omega⟩
  have e : ((List.replicate (n + 2 + k) 0).set 0 (n / 256)).set 1 (n % 256) = n / 256 :: n % 256 :: List.replicate (n + k) 0 := by
    rw [show n + 2 + k = (n + k) + 1 + 1 by omega, List.replicate_succ, List.replicate_succ]
    rfl
  rw [e]
  have e2 : n + 2 + k - 2 - n = k := by omega
  rw [e2]
  unfold splice
  rw [ints_length, hl]
  simp only [ints, List.map_cons, List.map_append, List.take_succ_cons, List.take_zero, List.map_replicate]
  rw [Nat.add_comm 2 n]
  simp
set_option maxHeartbeats 1000000 in
theorem Pad_ok {l : List Nat} (a : Option Addr) (n c : Nat) (w : World) (hs : Src w (.slice a n c) l) (hl : l.length = n) (hn : n ≤ 2046) :
    Calls Tryz.prog 61 #[.slice a n c] w fun e w' => e = .returned (.tuple #[.slice (some ⟨w.heap.size, 0, none⟩) (bsz n) (bsz n), .int .i64 0]) ∧ w'.ownsRow w.heap.size 5 1 (.slice (some ⟨w.heap.size, 0, none⟩) (bsz n) (bsz n)) (bsz n) (ints .u8 (padL l)) ∧ Below w.heap.size w w' := by
  have HC : Hid (∀ n' : Int, n' = (n : Int) → Calls Tryz.prog 104 #[.int .i64 n'] w fun e w' => e = .returned (.tuple #[.int .i64 (bsz n : Nat), .int .i64 0]) ∧ w' = w) := fun n' e => e ▸ Size_ok n w hn
  have hsz := bsz_le hn
  have HP : Hid (padL l = n / 256 :: n % 256 :: (l ++ List.replicate (bsz n - 2 - n) 0)) := by
    show padL l = _
    rw [padL, hl]
  generalize bsz n = s at *
  have HS : Hid (Src w (.slice a n c) l) := hs
  have HL : Hid (l.length = n) := hl
  have HN : Hid (n + 2 ≤ s ∧ s ≤ 2048 ∧ n ≤ 2046) := ⟨hsz.1, hsz.2.1, hn⟩
  have s1 : (s : Int) ≤ 2048 := by omega
  have s3 : (64 : Int) ≤ (s : Int) := by omega
  have s4 : ¬ s = 2 := by omega
  have s2 : (n : Int) + 2 ≤ (s : Int) := by omega
  have n0 : (0 : Int) ≤ (n : Int) := by omega
  have n1 : (n : Int) ≤ 2046 := by omega
  clear hs hl hsz hn
  go_enter Tryz.func61, Tryz.ntmps61
  go_wp2_with (first | with_reducible (refine stop_make 22 ?_) | (go_at_call 104; refine (HC.out _ rfl).mono ?_; rintro e w0 ⟨rfl, hw0⟩; rw [hw0]; clear hw0 w0))
  refine Stop.go ?_
  refine law_make w.heap.size s s rfl rfl (Nat.le_refl _) (by have := HN.out; omega) (Nat.le_refl _) ?_
  intro w1 ho1 hg1
  have c0 := own_at ho1 0 (by have := HN.out; omega)
  have c1 := own_at ho1 1 (by have := HN.out; omega)
  have f0 := own_may ho1 0
  have f1 := own_may ho1 1
  have HO1 : Hid (w1.ownsRow w.heap.size 5 1 (.slice (some ⟨w.heap.size, 0, none⟩) s s) s (ints .u8 (List.replicate s 0))) := ho1
  have HG1 : Hid (w.grownBy w1 none) := hg1
  clear ho1 hg1
  go_wp2_with (first | with_reducible (refine stop_builtin .copy ?_))
  refine Stop.go ?_
  have e0 : (n : Int) / 256 = ((n / 256 : Nat) : Int) := by omega
  have e1 : (n : Int) % 256 = ((n % 256 : Nat) : Int) := by omega
  rw [e0, e1]
  have ho2 := own_set (i := 1) (y := n % 256) (own_set (i := 0) (y := n / 256) HO1.out)
  have hs0 := own_whole ho2
  have hb2 : Below w.heap.size w ((w1.setCell ⟨w.heap.size, 0, none⟩ (.int .u8 ((n / 256 : Nat) : Int))).setCell ⟨w.heap.size, 1, none⟩ (.int .u8 ((n % 256 : Nat) : Int))) :=
    (((Below.refl w.heap.size w).grown HG1.out (Nat.le_refl _) (fun k hk => by cases hk)).setCell (Nat.le_refl _) _).setCell (Nat.le_refl _) _
  have hs2 : Src ((w1.setCell ⟨w.heap.size, 0, none⟩ (.int .u8 ((n / 256 : Nat) : Int))).setCell ⟨w.heap.size, 1, none⟩ (.int .u8 ((n % 256 : Nat) : Int))) (.slice a n c) l := HS.out.below hb2
  have hsrc : 0 < (ints .u8 l).length → some (⟨w.heap.size, 2, none⟩ : Addr) = some ⟨w.heap.size, 2, none⟩ ∧ ∃ ad : Addr, a = some ad ∧ ∀ (j : Nat) (v : Value), (ints .u8 l)[j]? = some v → ((w1.setCell ⟨w.heap.size, 0, none⟩ (.int .u8 ((n / 256 : Nat) : Int))).setCell ⟨w.heap.size, 1, none⟩ (.int .u8 ((n % 256 : Nat) : Int))).cell? (ad.add j) = some v := fun h => by
    rw [ints_length] at h
    obtain ⟨_, ⟨e, e'⟩ | ⟨ad, c', e, e'⟩ | ⟨b, o, c', e, hc, hr⟩⟩ := hs2
    · rw [e'] at h; simp at h
    · rw [e'] at h; simp at h
    · cases e
      exact ⟨rfl, ⟨b, o, none⟩, rfl, fun j v hv => by rw [Addr.add_mid]; exact hr j v hv⟩
  clear ho2 hs2
  have hnn := HN.out
  with_reducible refine wpList_copy_splice rfl (.tmp 30) (.tmp 31) 22 22 rfl 5 Tryz.underlying22 info5 (some ⟨w.heap.size, 2, none⟩) a (s - 2) (s - 2) n c ?cdB ?csB w.heap.size 2 (ints .u8 (((List.replicate s 0).set 0 (n / 256)).set 1 (n % 256))) 5 hs0 (ints .u8 l) ?cnB hsrc ?cfB ?c1B w.heap.size w hb2 (Nat.le_refl _) ?ckB
  case cdB => exact rfl
  case csB => exact rfl
  case cnB => rw [ints_length, HL.out]; exact (Nat.min_eq_left (by omega)).symm
  case cfB => rw [ints_length, ints_length, HL.out, List.length_set, List.length_set, List.length_replicate]; omega
  case c1B => exact fun v hv => by obtain ⟨q, _, rfl⟩ := List.mem_map.1 hv; rfl
  intro w2 hk2 hb3
  have HK2 : Hid (w2.heap[w.heap.size]? = some (.cells (ints .u8 (padL l)).toArray 5 (0, 0))) := by
    show _ = _
    rw [hk2.out, pad_cells HL.out hnn.1, HP.out]
  have HB3 : Hid (Below w.heap.size w w2) := hb3
  have HPL : Hid ((padL l).length = s) := by
    show _ = _
    rw [HP.out]
    simp [HL.out]
    omega
  clear hk2 hb3 hsrc hs0 hb2 e0 e1 hnn c0 c1 f0 f1 HO1 HG1
  go_wp2_with fail
  go_ret2
  exact ⟨rfl, whole_own HK2.out HPL.out (by have := HN.out; omega) (Nat.le_refl _), HB3.out⟩
end Go.Proofs.YtfjdaafckiefdaaGreatDoor.C8
