/- The contracts of check and Block. -/
import Derived.Test.YtnceiccciaihoaaC3BlockW
namespace Go.Proofs.Ytnceiccciaihoaa.C3
open Go.RowKit
theorem new38 (w : World) (B : List Nat) (h : B.length = 64) : ArAt (World.setCells (w.alloc (Obj.cells zeros64 47)) w.heap.size 0 (arr .u8 B).toList) w.heap.size B ∧
    Below w.heap.size w (World.setCells (w.alloc (Obj.cells zeros64 47)) w.heap.size 0 (arr .u8 B).toList) ∧ (World.setCells (w.alloc (Obj.cells zeros64 47)) w.heap.size 0 (arr .u8 B).toList).heap.size = w.heap.size + 1 := by
  refine ⟨?_, Below.setCells _ _ _ ((Below.refl _ _).alloc (Nat.le_refl _) _) (Nat.le_refl _), by rw [setCells_size]; simp⟩
  have hz0 : ArAt (w.alloc (Obj.cells zeros64 47)) w.heap.size (List.replicate 64 0) := heap_alloc_new w _
  have := heap_setCells w.heap.size 47 (ints .u8 B) 0 (w.alloc (Obj.cells zeros64 47)) (ints .u8 (List.replicate 64 0)) hz0 (by rw [ints_length, ints_length, h]; simp)
  unfold ArAt
  rw [arr_list]
  refine Eq.trans this ?_
  rw [ints_length, h]
  simp [arr, ints]
theorem there38 (w : World) : (w.alloc (Obj.cells zeros64 47)).there w.heap.size 0 64 := there_of_row (heap_alloc_new w (Obj.cells zeros64 47)) 64 (by simp [zeros64, arr_size])
theorem new41 (w : World) (S : List Nat) (h : S.length = 16) : StAt (World.setCells (w.alloc (Obj.cells zeros16 45)) w.heap.size 0 (arr .u32 S).toList) w.heap.size S ∧
    Below w.heap.size w (World.setCells (w.alloc (Obj.cells zeros16 45)) w.heap.size 0 (arr .u32 S).toList) ∧ (World.setCells (w.alloc (Obj.cells zeros16 45)) w.heap.size 0 (arr .u32 S).toList).heap.size = w.heap.size + 1 := by
  refine ⟨?_, Below.setCells _ _ _ ((Below.refl _ _).alloc (Nat.le_refl _) _) (Nat.le_refl _), by rw [setCells_size]; simp⟩
  have hz0 : StAt (w.alloc (Obj.cells zeros16 45)) w.heap.size (List.replicate 16 0) := heap_alloc_new w _
  have := heap_setCells w.heap.size 45 (ints .u32 S) 0 (w.alloc (Obj.cells zeros16 45)) (ints .u32 (List.replicate 16 0)) hz0 (by rw [ints_length, ints_length, h]; simp)
  unfold StAt
  rw [arr_list]
  refine Eq.trans this ?_
  rw [ints_length, h]
  simp [arr, ints]
theorem there41 (w : World) : (w.alloc (Obj.cells zeros16 45)).there w.heap.size 0 16 := there_of_row (heap_alloc_new w (Obj.cells zeros16 45)) 16 (by simp [zeros16, arr_size])
set_option maxHeartbeats 400000 in
theorem check_size1 (p q : Option Addr) (n c m d : Nat) (z : Int) (w : World) (h : n ≠ 32) :
    Calls Try.prog 22 #[.slice p n c, .int .i64 z, .slice q m d] w fun e w' => e = .returned (.int .i64 11) ∧ w' = w := by
  have h1 : ¬ (n : Int) = 32 := by omega
  go_enter Try.func22, Try.ntmps22
  go_wp2
  go_ret
  exact ⟨rfl, rfl⟩
set_option maxHeartbeats 400000 in
theorem check_size2 (p q : Option Addr) (c m d : Nat) (z : Int) (w : World) (h : m ≠ 12) :
    Calls Try.prog 22 #[.slice p 32 c, .int .i64 z, .slice q m d] w fun e w' => e = .returned (.int .i64 11) ∧ w' = w := by
  have h1 : ¬ (m : Int) = 12 := by omega
  go_enter Try.func22, Try.ntmps22
  go_wp2
  go_ret
  exact ⟨rfl, rfl⟩
set_option maxHeartbeats 400000 in
theorem check_range1 (p q : Option Addr) (c d : Nat) (z : Int) (w : World) (h : z < 0) :
    Calls Try.prog 22 #[.slice p 32 c, .int .i64 z, .slice q 12 d] w fun e w' => e = .returned (.int .i64 12) ∧ w' = w := by
  go_enter Try.func22, Try.ntmps22
  go_wp2
  go_ret
  exact ⟨rfl, rfl⟩
set_option maxHeartbeats 400000 in
theorem check_range2 (p q : Option Addr) (c d : Nat) (z : Int) (w : World) (h : 4294967295 < z) :
    Calls Try.prog 22 #[.slice p 32 c, .int .i64 z, .slice q 12 d] w fun e w' => e = .returned (.int .i64 12) ∧ w' = w := by
  have h0 : ¬ z < 0 := by omega
  go_enter Try.func22, Try.ntmps22
  go_wp2
  go_ret
  exact ⟨rfl, rfl⟩
set_option maxHeartbeats 400000 in
theorem check_ok (p q : Option Addr) (c d : Nat) (z : Nat) (w : World) (h : z < 4294967296) :
    Calls Try.prog 22 #[.slice p 32 c, .int .i64 z, .slice q 12 d] w fun e w' => e = .returned (.int .i64 0) ∧ w' = w := by
  have h0 : ¬ (z : Int) < 0 := by omega
  have h1 : ¬ 4294967295 < (z : Int) := by omega
  go_enter Try.func22, Try.ntmps22
  go_wp2
  go_ret
  exact ⟨rfl, rfl⟩
/-- What is wrong: the error's number. -/
def Bad (n m : Nat) (z : Int) (e : Int) : Prop := ((n ≠ 32 ∨ m ≠ 12) ∧ e = 11) ∨ (n = 32 ∧ m = 12 ∧ (z < 0 ∨ 4294967295 < z) ∧ e = 12)
theorem check_bad (p q : Option Addr) (n c m d : Nat) (z e : Int) (w : World) (h : Bad n m z e) :
    Calls Try.prog 22 #[.slice p n c, .int .i64 z, .slice q m d] w fun e' w' => e' = .returned (.int .i64 e) ∧ w' = w := by
  rcases h with ⟨h, rfl⟩ | ⟨rfl, rfl, h, rfl⟩
  · by_cases hn : n = 32
    · subst hn
      exact check_size2 p q c m d z w (by omega)
    · exact check_size1 p q n c m d z w hn
  · rcases h with h | h
    · exact check_range1 p q c d z w h
    · exact check_range2 p q c d z w h
theorem Bad.ne {n m : Nat} {z e : Int} (h : Bad n m z e) : ¬ e = 0 := by
  rcases h with ⟨_, rfl⟩ | ⟨_, _, _, rfl⟩ <;> decide
set_option maxHeartbeats 400000 in
theorem Block_bad (p q : Option Addr) (n c m d : Nat) (z e : Int) (w : World) (h : Bad n m z e) :
    Calls Try.prog 15 #[.slice p n c, .int .i64 z, .slice q m d] w fun e' w' => e' = .returned (.tuple #[.slice none 0 0, .int .i64 e]) ∧ w' = w := by
  have h0 := h.ne
  have HB : Hid (Bad n m z e) := h
  clear h
  go_enter Try.func15, Try.ntmps15
  go_wp2_with fail
  refine (check_bad p q n c m d z e w HB.out).mono ?_
  rintro e' w' ⟨rfl, rfl⟩
  go_wp2_with fail
  refine bodyPost_ret (results_tmp2 rfl _ _ _) rfl ?_
  exact ⟨rfl, rfl⟩
set_option maxHeartbeats 400000 in
theorem Block_ok (key nonce : List Nat) (bk ok ck bn on cn c : Nat) (w : World) (hk : key.length = 32) (hn : nonce.length = 12) (hK : SliceIs w bk ok key) (hN : SliceIs w bn on nonce) (hc : c < 4294967296) (hck : 32 ≤ ck) (hcn : 12 ≤ cn) :
    Calls Try.prog 15 #[.slice (some ⟨bk, ok, none⟩) 32 ck, .int .i64 c, .slice (some ⟨bn, on, none⟩) 12 cn] w fun e w' => ∃ g, e = .returned (.tuple #[.slice (some ⟨g, 0, none⟩) 64 64, .int .i64 0]) ∧ w.heap.size ≤ g ∧ ArAt w' g (Ch.blockOf key c nonce) ∧ Below w.heap.size w w' := by
  have HC : Hid (∀ w', w' = w → Calls Try.prog 23 #[.slice (some ⟨bk, ok, none⟩) 32 ck, .int .i64 c, .slice (some ⟨bn, on, none⟩) 12 cn] w' fun e w' => e = .returned (.agg (arr .u32 (Ch.start key c nonce))) ∧ Below w.heap.size w w') := fun w' hw => by
    subst hw
    exact begin_any key nonce bk ok ck bn on cn c w' hk hn hK hN hc hck hcn
  have HS : Hid (Ch.Ok (Ch.start key c nonce)) := Ch.start_ok hK.1 hN.1 hc
  have HE : Hid (Ch.blockOf key c nonce = Ch.block (Ch.start key c nonce)) := rfl
  have HBL : Hid ((Ch.blockOf key c nonce).length = 64) := Ch.block_length _
  generalize Ch.blockOf key c nonce = B at *
  generalize Ch.start key c nonce = S at *
  clear hk hn hK hN
  go_enter Try.func15, Try.ntmps15
  go_wp2_with fail
  refine (check_ok _ _ ck cn c w hc).mono ?_
  rintro e' w' ⟨rfl, rfl⟩
  go_wp2_with fail
  refine (HC.out _ rfl).mono ?_
  rintro e' w1 ⟨rfl, hb1⟩
  have HB1 : Hid (Below w'.heap.size w' w1) := hb1
  clear hb1
  go_wp2_with fail
  refine (block_any S w1 HS.out).mono ?_
  rintro e' w2 ⟨rfl, hb2⟩
  rw [← HE.out]
  have HB2 : Hid (Below w'.heap.size w' w2) := HB1.out.trans (hb2.mono HB1.out.size)
  clear hb2 HB1 HE
  go_wp2_with (first | with_reducible (refine stop_store 47 ?_))
  rw [zeros64_eq]
  refine Stop.go ?_
  with_reducible refine law_store w2.heap.size 0 (arr .u8 B) ?sx ?sy ?st ?si (ints_one _ _) ?sk
  case sx => exact rfl
  case sy => exact rfl
  case st => rw [arr_size, HBL.out]; exact there38 w2
  case si => rw [arr_size, HBL.out]; exact info38
  obtain ⟨h1, h2, h3⟩ := new38 w2 B HBL.out
  have H1 : Hid (ArAt (World.setCells (w2.alloc (Obj.cells zeros64 47)) w2.heap.size 0 (arr .u8 B).toList) w2.heap.size B) := h1
  have HB3 : Hid (Below w'.heap.size w' (World.setCells (w2.alloc (Obj.cells zeros64 47)) w2.heap.size 0 (arr .u8 B).toList)) := HB2.out.trans (h2.mono HB2.out.size)
  have hs2 := HB2.out.size
  clear h1 h2 h3 HB2
  generalize World.setCells (w2.alloc (Obj.cells zeros64 47)) w2.heap.size 0 (arr .u8 B).toList = w3 at *
  go_wp2_with fail
  refine bodyPost_ret (results_tmp2 rfl _ _ _) rfl ?_
  exact ⟨w2.heap.size, rfl, hs2, H1.out, HB3.out⟩
end Go.Proofs.Ytnceiccciaihoaa.C3
