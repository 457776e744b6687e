/- The walk of ChachaPlain. -/
import Derived.Test.YtnbdadhdpplldacApp
namespace Go.Proofs.Ytnbdadhdpplldac
open Go.RowKit
set_option maxHeartbeats 1000000 in
theorem plain_early (key nonce : List Nat) (z q : Int) (w : World) (h : z < 0 ∨ 4294967287 < z ∨ q < 0 ∨ 300 < q) :
    Calls Try.prog 6 #[.agg (arr .u8 key), .int .i64 z, .agg (arr .u8 nonce), .int .i64 q] w fun e w' => e = .returned (.bool true) ∧ Below w.heap.size w w' := by
  have HH : Hid (z < 0 ∨ 4294967287 < z ∨ q < 0 ∨ 300 < q) := h
  clear h
  go_enter Try.func6, Try.ntmps6
  go_wp2_with fail
  refine (anchor_any _).mono ?_
  rintro e w1 ⟨rfl, hb1⟩
  have HB1 : Hid (Below w.heap.size w w1) := (knW_below w key nonce).trans (hb1.mono (knW_below w key nonce).size)
  clear hb1
  go_wp2_with fail
  all_goals first | (exfalso; have := HH.out; omega) | (go_ret; exact ⟨rfl, HB1.out⟩)
/-- The first k blocks, one behind the other. -/
def blocks (key : List Nat) (c : Nat) (nonce : List Nat) (k : Nat) : List Nat := (List.range k).flatMap fun j => Ch.blockOf key (c + j) nonce
theorem blocks_succ (key : List Nat) (c : Nat) (nonce : List Nat) (k : Nat) : blocks key c nonce (k + 1) = blocks key c nonce k ++ Ch.blockOf key (c + k) nonce := by simp [blocks, List.range_succ]
theorem blocks_length (key : List Nat) (c : Nat) (nonce : List Nat) : ∀ k, (blocks key c nonce k).length = 64 * k
  | 0 => rfl
  | k + 1 => by rw [blocks_succ, List.length_append, blocks_length key c nonce k, Ch.blockOf, Ch.block_length]; omega
theorem plain_eq (key : List Nat) (c : Nat) (nonce : List Nat) (n : Nat) (hn : n ≤ 320) (hc : c + 5 ≤ 4294967296) : Ch.xor key c nonce (List.replicate n 0) = (blocks key c nonce 5).take n := by
  apply Ch.ext_nth
  · rw [Ch.xor_length, List.length_take, blocks_length, List.length_replicate]; omega
  · intro i hi
    rw [Ch.xor_length, List.length_replicate] at hi
    rw [Ch.xor_nth _ _ _ _ (by rw [List.length_replicate]; exact hi), Sp.nth_take hi]
    have h1 : Sp.nth (List.replicate n 0) i = 0 := by simp [Sp.nth, hi]
    rw [h1, Nat.zero_xor]
    exact (Ch.blocks_nth key c nonce 5 i (by omega) (by omega)).symm
set_option maxHeartbeats 1000000 in
theorem plain_any (key nonce : List Nat) (c n : Nat) (w : World) (hk : key.length = 32) (hn : nonce.length = 12) (hks : ∀ x ∈ key, x < 256) (hns : ∀ x ∈ nonce, x < 256)
    (hc : c ≤ 4294967287) (hn3 : n ≤ 300) :
    Calls Try.prog 6 #[.agg (arr .u8 key), .int .i64 c, .agg (arr .u8 nonce), .int .i64 n] w fun e w' => e = .returned (.bool true) ∧ Below w.heap.size w w' := by
  have HX : Hid (XorAll (knW w key nonce) w.heap.size key nonce) := xorAll_of hk hn hks hns
  have HBK : Hid (BlockAll (knW w key nonce) w.heap.size key nonce) := blockAll_of hk hn hks hns
  have HBA : Hid (Below w.heap.size w (knW w key nonce)) := knW_below w key nonce
  clear hks hns hk hn
  have c1 : (n : Int) ≤ 300 := by omega
  have c2 : (c : Int) ≤ 4294967287 := by omega
  have hmk := fun w => make_bytes n n .i64 (Nat.le_refl _) (by omega) w
  go_enter Try.func6, Try.ntmps6
  go_wp2_with fail
  rw [show (w.alloc (Obj.cells (arr .u8 key) 32)).alloc (Obj.cells (arr .u8 nonce) 33) = knW w key nonce from rfl]
  refine (anchor_any _).mono ?_
  rintro e w1 ⟨rfl, hb1⟩
  have HB1 : Hid (Below (knW w key nonce).heap.size (knW w key nonce) w1) := hb1
  clear hb1
  go_wp2_with fail
  have HBM : Hid (Below (knW w key nonce).heap.size (knW w key nonce) ((w1.drewN 1).alloc (.cells (arr .u8 (List.replicate n 0)) 5))) := (below_drewN HB1.out 1).alloc HB1.out.size _
  have HTM : Hid (TextIs ((w1.drewN 1).alloc (.cells (arr .u8 (List.replicate n 0)) 5)) (some ⟨w1.heap.size, 0, none⟩) (List.replicate n 0)) :=
    BRow.text (heap_alloc_new (w1.drewN 1) _) (fun x hx => by have := (List.mem_replicate.1 hx).2; omega)
  go_region_with ((go_at_call 12; refine (HX.out _ c n n _ (List.replicate n 0) HBM.out (by omega) HTM.out (by simp) (by omega)).mono ?_; rintro e w3 ⟨g, rfl, hg, hr, hb⟩))
  have HB3 : Hid (Below (knW w key nonce).heap.size (knW w key nonce) w3) := HBM.out.trans (hb.mono HBM.out.size)
  have HR3 : Hid (BRow w3 g (Ch.xor key c nonce (List.replicate n 0))) := hr
  have hs3 := HB3.out.size
  clear hr hb hg HBM HTM HB1 HX hmk
  go_wp2_with fail
  go_loopw [11, 40] (fun sl i wr => ∃ k : Nat, k ≤ 5 ∧ i = .int .i64 k ∧ Hid (wr.ownsRow w3.heap.size 5 1 sl (64 * k) (ints .u8 (blocks key c nonce k))) ∧ Hid (Below w3.heap.size w3 wr)) (fun _ i _ => 5 - (intOf i).toNat)
  case atStart => exact ⟨0, by omega, rfl, own_none _ _ _ _, Below.refl _ _⟩
  case round =>
    obtain ⟨k, hk, rfl, HO, HW⟩ := hrel
    obtain ⟨q, cq, rfl⟩ := own_slice HO.out
    by_cases hlt : k < 5
    · have HB5 : Hid (Below (knW w key nonce).heap.size (knW w key nonce) wr) := HB3.out.trans (HW.out.mono hs3)
      have HC : Hid (∀ w', Below (knW w key nonce).heap.size (knW w key nonce) w' → Calls Try.prog 10 #[.slice (some ⟨w.heap.size, 0, none⟩) 32 32, .int .i64 ((c : Int) + (k : Int)), .slice (some ⟨w.heap.size + 1, 0, none⟩) 12 12] w' fun e w2 => ∃ g, e = .returned (.tuple #[.slice (some ⟨g, 0, none⟩) 64 64, .int .i64 0]) ∧ w'.heap.size ≤ g ∧ ArAt w2 g (Ch.blockOf key (c + k) nonce) ∧ Below w'.heap.size w' w2) := fun w' hb => HBK.out w' (c + k) hb (by omega)
      have v1 : IntKind.i64.wrap ((c : Int) + (k : Int)) = (c : Int) + (k : Int) := i64_id _ (by omega)
      go_wp2_with fail
      go_region_with ((go_at_call 10; refine (HC.out _ (below_drewN HB5.out 1)).mono ?_; rintro e w5 ⟨g5, rfl, hg, hr, hb⟩))
      have hb' : Below wr.heap.size wr w5 := (below_drewN (Below.refl _ _) 1).trans hb
      have HO5 : Hid (w5.ownsRow w3.heap.size 5 1 (.slice q (64 * k) cq) (64 * k) (ints .u8 (blocks key c nonce k))) := own_below HO.out hb'
      have HR5 : Hid (ArAt w5 g5 (Ch.blockOf key (c + k) nonce)) := hr
      have HW5 : Hid (Below w3.heap.size w3 w5) := HW.out.trans (hb'.mono HW.out.size)
      clear hr hb hb' hg HO HW HB5 HC
      go_wp2_with (first | with_reducible (refine stop_builtin .append ?_))
      refine Stop.go ?_
      have hbl : (Ch.blockOf key (c + k) nonce).length = 64 := Ch.block_length _
      have hra : w5.rangeAt g5 0 (ints .u8 (Ch.blockOf key (c + k) nonce)) := rangeAt_of_row HR5.out
      with_reducible refine law_append_bytes w3.heap.size (.slice q (64 * k) cq) (64 * k) (blocks key c nonce k) g5 64 64 (Ch.blockOf key (c + k) nonce) ?asv ?axv hbl HO5.out hra (by omega) HW5.out.size ?ak
      case asv => exact rfl
      case axv => exact rfl
      intro v6 w6 hown6 hg6
      have HO6 : Hid (w6.ownsRow w3.heap.size 5 1 v6 (64 * (k + 1)) (ints .u8 (blocks key c nonce (k + 1)))) := by
        rw [blocks_succ]
        exact hown6
      have HW6 : Hid (Below w3.heap.size w3 w6) := below_grown' HW5.out hg6 HO5.out HW5.out.size (Nat.le_refl _)
      clear hown6 hg6 HO5 HW5 HR5 hbl hra
      go_wp2_with fail
      go_roundw
      case rel => exact ⟨k + 1, by omega, by go_num, HO6.out, HW6.out⟩
      case measure => simp [intOf]; omega
    · obtain rfl : k = 5 := by omega
      obtain ⟨ga, ca, he, _, _, hca, hra⟩ := own_cell HO.out (by decide)
      obtain ⟨rfl, rfl⟩ : q = some ⟨ga, 0, none⟩ ∧ cq = ca := by cases he; exact ⟨rfl, rfl⟩
      have hr5 : BRow wr g (Ch.xor key c nonce (List.replicate n 0)) := HR3.out.below HW.out HR3.out.lt
      have hE := plain_eq key c nonce n (by omega) (by omega)
      have hl1 : (Ch.xor key c nonce (List.replicate n 0)).length = n := by rw [Ch.xor_length, List.length_replicate]
      rw [hE] at hr5 hl1
      have hcv1 : ∀ m, (convert 22 9 (.slice (some ⟨g, 0, none⟩) n n)).run Try.prog (wr.drewN m) = .ok (.string (strB ((blocks key c nonce 5).take n))) (wr.drewN m) := fun m => conv_of n hl1 (rangeAt_of_row (w := wr.drewN m) hr5)
      have hcv2 : ∀ m, (convert 22 9 (.slice (some ⟨ga, 0, none⟩) n cq)).run Try.prog (wr.drewN m) = .ok (.string (strB ((blocks key c nonce 5).take n))) (wr.drewN m) := fun m => conv_of cq hl1 (w := wr.drewN m) (rangeAt_take (w := wr.drewN m) hra n)
      have HBF : Hid (Below w.heap.size w wr) := HBA.out.trans ((HB3.out.trans (HW.out.mono hs3)).mono HBA.out.size)
      have q1 : (n : Int) ≤ (cq : Int) := by omega
      have q2 : n ≤ cq := by omega
      clear hr5 hE hl1 hra HR3 HB3 HO HW HBK HBA he
      generalize (blocks key c nonce 5).take n = Y at *
      go_wp2_with fail
      go_quiet (fail)
      go_wp2_with fail
      go_ret
      exact ⟨rfl, below_drewN HBF.out nq⟩
end Go.Proofs.Ytnbdadhdpplldac
