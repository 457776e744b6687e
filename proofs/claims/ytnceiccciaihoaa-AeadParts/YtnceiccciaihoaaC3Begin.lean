/- The contract of begin. -/
import Derived.Test.YtnceiccciaihoaaC3Fill
namespace Go.Proofs.Ytnceiccciaihoaa.C3
open Go.RowKit
def init16 : List Nat := [0x61707865, 0x3320646e, 0x79622d32, 0x6b206574, 0, 0, 0, 0, 0, 0, 0, 0, 0, 0, 0, 0]
theorem start_eq (key nonce : List Nat) (c : Nat) : fillTo ((fillTo init16 4 key 8).set 12 c) 13 nonce 3 = Ch.start key c nonce := rfl
/-- The bytes that a slice stands for. -/
def SliceIs (w : World) (b o : Nat) (l : List Nat) : Prop := (∀ x ∈ l, x < 256) ∧ w.rangeAt b o (ints .u8 l)
theorem SliceIs.lt {w : World} {b o : Nat} {l : List Nat} (h : SliceIs w b o l) (h0 : l ≠ []) : b < w.heap.size := by
  obtain ⟨x, m, rfl⟩ := List.exists_cons_of_ne_nil h0
  have := h.2 0 (.int .u8 (x : Nat)) rfl
  exact World.block_lt_of_cell? w _ this
theorem SliceIs.below {w w' : World} {b o : Nat} {l : List Nat} (h : SliceIs w b o l) (hb : Below w.heap.size w w') : SliceIs w' b o l := ⟨h.1, rangeAt_below hb h.2⟩
theorem below_grown {w w1 w2 : World} {g : Nat} (h : Below w.heap.size w w1) (hg : w1.grownBy w2 (some g)) (hgs : w.heap.size ≤ g) : Below w.heap.size w w2 :=
  ⟨hg.os.trans h.os, hg.tape.trans h.tape, hg.output.trans h.output, Nat.le_trans h.size hg.size, fun k hk => by rw [hg.block k (Nat.lt_of_lt_of_le hk h.size) (by simp; omega)]; exact h.block k hk⟩
theorem StAt.grown {w w' : World} {g g' : Nat} {s : List Nat} (h : StAt w g s) (hg : w.grownBy w' (some g')) (hne : g ≠ g') : StAt w' g s := by
  have := hg.block g (Array.getElem?_eq_some_iff.1 h).1 (by simpa using hne)
  exact this.trans h
set_option maxHeartbeats 1000000 in
theorem begin_any (key nonce : List Nat) (bk ok ck bn on cn c : Nat) (w : World) (hk : key.length = 32) (hn : nonce.length = 12) (hK : SliceIs w bk ok key) (hN : SliceIs w bn on nonce) (hc : c < 4294967296) (hck : 32 ≤ ck) (hcn : 12 ≤ cn) :
    Calls Try.prog 23 #[.slice (some ⟨bk, ok, none⟩) 32 ck, .int .i64 c, .slice (some ⟨bn, on, none⟩) 12 cn] w fun e w' => e = .returned (.agg (arr .u32 (Ch.start key c nonce))) ∧ Below w.heap.size w w' := by
  have hbk := hK.lt (by intro e; rw [e] at hk; simp at hk)
  have hbn := hN.lt (by intro e; rw [e] at hn; simp at hn)
  have HK : Hid (SliceIs w bk ok key) := hK
  have HN : Hid (SliceIs w bn on nonce) := hN
  have HKL : Hid (key.length = 32) := hk
  have HNL : Hid (nonce.length = 12) := hn
  obtain ⟨S, hS⟩ : ∃ S, Ch.start key c nonce = S := ⟨_, rfl⟩
  rw [hS]
  have HS : Hid (Ch.start key c nonce = S) := hS
  clear hK hN hk hn hS
  have c1 : (c : Int) % 4294967296 = (c : Int) := by omega
  have c2 : IntKind.u32.wrap (c : Int) = (c : Int) := by rw [IntKind.wrap_u32]; omega
  go_enter Try.func23, Try.ntmps23
  go_wp2_with (first | with_reducible (refine stop_store 45 ?_))
  refine Stop.go ?_
  rw [zeros16_eq]
  with_reducible refine law_store (w.heap.size + 1) 0 (arr .u32 init16) ?sx ?sy ?st ?si (ints_one _ _) ?sk
  case sx => exact rfl
  case sy => exact rfl
  case st => exact there_of_row (mixW_1 w (List.replicate 16 0)) 16 (by simp [zeros16, arr_size])
  case si => exact info41
  have H1 : Hid (StAt (World.setCells ((w.alloc (Obj.cells zeros16 45)).alloc (Obj.cells zeros16 45)) (w.heap.size + 1) 0 (arr .u32 init16).toList) (w.heap.size + 1) init16) := by
    have := heap_setCells (w.heap.size + 1) 45 (ints .u32 init16) 0 (mixW w (List.replicate 16 0)) (ints .u32 (List.replicate 16 0)) (mixW_1 w (List.replicate 16 0)) (by simp [ints_length, init16])
    show _ = _
    rw [arr_list]
    refine Eq.trans this ?_
    rfl
  have HB1 : Hid (Below w.heap.size w (World.setCells ((w.alloc (Obj.cells zeros16 45)).alloc (Obj.cells zeros16 45)) (w.heap.size + 1) 0 (arr .u32 init16).toList)) := Below.setCells _ _ _ (mixW_below w (List.replicate 16 0)) (by omega)
  have HT1 : Hid (StAt (World.setCells ((w.alloc (Obj.cells zeros16 45)).alloc (Obj.cells zeros16 45)) (w.heap.size + 1) 0 (arr .u32 init16).toList) w.heap.size (List.replicate 16 0)) :=
    StAt.grown (mixW_0 w (List.replicate 16 0)) (grownBy_setCells _ _ (grownBy_refl (mixW w (List.replicate 16 0)) _)) (by omega)
  generalize World.setCells ((w.alloc (Obj.cells zeros16 45)).alloc (Obj.cells zeros16 45)) (w.heap.size + 1) 0 (arr .u32 init16).toList = W1 at *
  go_wp2_with fail
  have hK1 := HK.out.below HB1.out
  refine (fill32 init16 key (w.heap.size + 1) bk ok ck W1 H1.out rfl HKL.out hK1.1 hK1.2 (by omega) hck).mono ?_
  rintro e W2 ⟨rfl, h2, g2⟩
  have H2 : Hid (StAt W2 (w.heap.size + 1) (fillTo init16 4 key 8)) := h2
  have HB2 : Hid (Below w.heap.size w W2) := below_grown HB1.out g2 (by omega)
  have HT2 : Hid (StAt W2 w.heap.size (List.replicate 16 0)) := HT1.out.grown g2 (by omega)
  clear h2 g2 H1 HB1 HT1 hK1
  have hf := H2.out.may 12
  have hcl := H2.out.cell 12 (by rw [fillTo_length]; decide)
  have H3 : Hid (StAt (W2.setCell ⟨w.heap.size + 1, 12, none⟩ (.int .u32 (c : Nat))) (w.heap.size + 1) ((fillTo init16 4 key 8).set 12 c)) := H2.out.set 12 c
  have HB3 : Hid (Below w.heap.size w (W2.setCell ⟨w.heap.size + 1, 12, none⟩ (.int .u32 (c : Nat)))) := HB2.out.setCell (by simp) _
  have HT3 : Hid (StAt (W2.setCell ⟨w.heap.size + 1, 12, none⟩ (.int .u32 (c : Nat))) w.heap.size (List.replicate 16 0)) := HT2.out.grown (grownBy_set (grownBy_refl W2 (some (w.heap.size + 1))) 12 _) (by omega)
  generalize Sp.nth (fillTo init16 4 key 8) 12 = old at *
  clear H2 HB2 HT2
  go_wp2_with fail
  generalize W2.setCell ⟨w.heap.size + 1, 12, none⟩ (.int .u32 (c : Nat)) = W3 at *
  have hN1 := HN.out.below HB3.out
  refine (fill12 ((fillTo init16 4 key 8).set 12 c) nonce (w.heap.size + 1) bn on cn W3 H3.out (by rw [List.length_set, fillTo_length]; rfl) HNL.out hN1.1 hN1.2 (by omega) hcn).mono ?_
  rintro e W4 ⟨rfl, h2, g2⟩
  rw [start_eq, HS.out] at h2
  have H4 : Hid (StAt W4 (w.heap.size + 1) S) := h2
  have HB4 : Hid (Below w.heap.size w W4) := below_grown HB3.out g2 (by omega)
  have HT4 : Hid (StAt W4 w.heap.size (List.replicate 16 0)) := HT3.out.grown g2 (by omega)
  have HL : Hid (S.length = 16) := by
    show _ = _
    rw [← HS.out]
    simp [Ch.start, Ch.words_length]
  clear h2 g2 H3 HB3 HT3 hN1 HS
  go_wp2_with (first | with_reducible (refine stop_load 45 ?_))
  refine Stop.go ?_
  with_reducible refine law_load_arr (w.heap.size + 1) 0 .u32 S _ ?lx ?lc under41 rfl ?li ?lk
  case lx => exact rfl
  case lc => exact rangeAt_of_row H4.out
  case li => rw [HL.out]; exact info41
  go_wp2_with (first | with_reducible (refine stop_store 45 ?_))
  refine Stop.go ?_
  with_reducible refine law_store w.heap.size 0 (arr .u32 S) ?tx ?ty ?tt ?ti (ints_one _ _) ?tk
  case tx => exact rfl
  case ty => exact rfl
  case tt => rw [arr_size, HL.out]; exact there_of_row HT4.out 16 (by simp [arr_size])
  case ti => rw [arr_size, HL.out]; exact info41
  go_wp2_with fail
  refine bodyPost_ret (v := .agg (arr .u32 S)) (results_row rfl _ _ w.heap.size 0 (ints .u32 S) _ rfl ?_ under41 rfl ?_) rfl ⟨rfl, ?_⟩
  · exact World.rangeAt_setCells_same _ _ _ _ (by rw [arr_list, ints_length, HL.out]; exact there_of_row HT4.out 16 (by simp [arr_size]))
  · rw [ints_length, HL.out]; exact info41
  · exact Below.setCells _ _ _ HB4.out (by omega)
end Go.Proofs.Ytnceiccciaihoaa.C3
