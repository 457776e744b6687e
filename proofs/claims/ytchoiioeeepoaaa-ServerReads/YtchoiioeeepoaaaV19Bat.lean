/- The contract of batch. -/
import Derived.Test.YtchoiioeeepoaaaV19Push
import Derived.ScopeJumps
namespace Go.Proofs.Ytchoiioeeepoaaa.V19
open Go.RowKit C8 E9 F17
theorem wp_scope_from {P : Program} {Q : Exit → Act → World → Prop} {a : Act} {w : World} {c B : Code} (l : Nat) (J : Act → World → Prop) (μ : Act → World → Nat) (hf : findLabel c l = some (.seq .skip B))
    (pass : ∀ a w, J a w → B.wp P (Exit.jump l (fun a' w' => J a' w' ∧ μ a' w' < μ a w) Q) a w)
    (first : (∀ a w, J a w → B.wp P (Exit.jump l J Q) a w) → c.wp P (Exit.jump l J Q) a w) : (Code.scope c).wp P Q a w := by
  refine wp_scope_jumps l J μ hf (first (fun a w h => Code.wp_mono ?_ (pass a w h))) (fun a w h => wp_seq (wp_skip (pass a w h)))
  intro e a w h
  cases e <;> first | exact h | exact ⟨h.1, h.2.1⟩
theorem fit_le (c i : Int) (ls : Ls) : ∀ k, fit c i ls k ≤ k
  | 0 => Nat.le_refl _
  | k + 1 => by
    unfold fit
    split
    · exact Nat.le_refl _
    · exact Nat.le_succ_of_le (fit_le c i ls k)
theorem fit_ok (c i : Int) (ls : Ls) {k : Nat} (h : (F17.bytes ⟨3, c, i, ls.take k, []⟩).length ≤ 32768) : fit c i ls k = k := by
  cases k with
  | zero => rfl
  | succ k => unfold fit; rw [if_pos h]
theorem fit_no (c i : Int) (ls : Ls) {k : Nat} (h : 32768 < (F17.bytes ⟨3, c, i, ls.take (k + 1), []⟩).length) : fit c i ls (k + 1) = fit c i ls k := by
  rw [fit, if_neg (by omega)]
theorem bat_right {c i : Int} {ls : Ls} (hc : 1 ≤ c ∧ c ≤ 1099511627776) (hi : 0 ≤ i ∧ i ≤ 64) (hw : Wf ls) {k : Nat} (hk : k ≤ 8) : F17.right ⟨3, c, i, ls.take k, []⟩ = true := by
  unfold F17.right F17.lks F17.byKind
  simp only [Bool.and_eq_true, decide_eq_true_eq]
  refine ⟨⟨⟨hc, hi⟩, ?_, ?_⟩, ?_⟩
  · rw [List.length_take]
    omega
  · exact (F17.lok_iff _).2 (fun x hx => (hw.2 x (List.mem_of_mem_take hx)).1)
  · rfl
theorem bat_zero (c i : Int) (ls : Ls) : (F17.bytes ⟨3, c, i, ls.take 0, []⟩).length ≤ 32768 := by
  rw [F17.bytes_eq]
  simp only [List.take_zero, List.length_append]
  have e1 : ∀ n : Int, (Cd.one (num n)).length = 6 := fun n => by
    show (Cd.be 6 _).length = 6
    rw [Cd.be_length]
  have e2 : (Cd.one (txt [])).length = 2 := by
    show (Cd.be 2 _ ++ []).length = 2
    rw [List.append_nil, Cd.be_length]
  have e3 : (Cd.enc (F17.lpts [])).length = 0 := rfl
  simp only [e1, e2, e3]
  omega
theorem row_take {w : World} {q : Option Addr} {ls : Ls} (h : LkRow w q ls) (k : Nat) : LkRow w q (ls.take k) := fun j hj => by
  have h1 : j < ls.length := by rw [List.length_take] at hj; omega
  obtain ⟨b, o, bp, bc, k1, k2, k3, k4, k5⟩ := h j h1
  have e : (ls.take k)[j] = ls[j] := by simp
  exact ⟨b, o, bp, bc, k1, k2, by rw [e]; exact k3, by rw [e]; exact k4, by rw [e]; exact k5⟩
theorem slice_h (q : Option Addr) (n cp k : Nat) (h : k ≤ cp) (w : World) : (Instr.slice 31 (.slice q n cp) none (some (.int .i64 (k : Int))) none).run Try.prog w = .ok (.slice q k cp) w := by
  have hs : (sizeOf (Try.prog.elem 31)).run Try.prog w = .ok 1 w := by kernel_rfl
  rw [run_slice_h (ht := Try.underlying31) (h0 := by omega) (h2 := by omega), hs]
  simp only [Result.andThen, sliced]
  cases q with
  | none => simp
  | some ad =>
    simp [Addr.add]
theorem cons_of {n : Nat} : ∀ (l : List Value), l.length = n + 1 → ∃ x l', l = x :: l' ∧ l'.length = n
  | x :: l', h => ⟨x, l', rfl, by simpa using h⟩
def bJ (c i : Int) (q : Option Addr) (n cp : Nat) (ls : Ls) (w : World) (top : Nat) (a : Act) (w' : World) : Prop :=
  ∃ (k : Nat) (v : Value) (l : List Value), k ≤ top ∧ fit c i ls top = fit c i ls k ∧ Below w.heap.size w w' ∧ w'.heap[w.heap.size]? = some (.cells #[.int .i64 3, .int .i64 c, .int .i64 i, v, .slice none 0 0] 34 (0, 0)) ∧ l.length = 22 ∧
    a = { tmps := (.int .i64 c :: .int .i64 i :: .slice q n cp :: undef :: undef :: undef :: .slice none 0 0 :: .pointer (some ⟨w.heap.size, 0, none⟩) :: .int .i64 (k : Int) :: l).toArray, defers := [] }
def bMu (a : Act) (_ : World) : Nat := (intOf (a.tmps.getD 8 undef)).toNat
set_option maxHeartbeats 8000000 in
set_option maxRecDepth 20000 in
theorem batch_any (c i : Int) (q : Option Addr) (cp : Nat) (ls : Ls) (w : World) (hl : LkRow w q ls) (hcp : ls.length ≤ cp) (hc : 1 ≤ c ∧ c ≤ 1099511627776) (hi : 0 ≤ i ∧ i ≤ 64) (hw : Wf ls) :
    Calls Try.prog 42 #[.int .i64 c, .int .i64 i, .slice q ls.length cp] w fun e w' => ∃ v, e = .returned v ∧ Src w' v (bat c i ls) ∧ Below w.heap.size w w' := by
  obtain ⟨n, HN⟩ : ∃ n, Hid (ls.length = n) := ⟨_, rfl⟩
  have HL : Hid (LkRow w q ls) := hl
  have HC : Hid (1 ≤ c ∧ c ≤ 1099511627776) := hc
  have HI : Hid (0 ≤ i ∧ i ≤ 64) := hi
  have HW : Hid (Wf ls) := hw
  have hn : n ≤ 64 := by have := hw.1; have := HN.out; omega
  have l1 : (n : Int) ≤ 64 := by omega
  rw [HN.out] at hcp ⊢
  have hmin : (min (n : Int) 8) = ((min n 8 : Nat) : Int) := by omega
  clear hl hc hi hw
  go_enter Try.func42, Try.ntmps42
  go_wp2_with fail
  refine wp_scope_from 0 (bJ c i q n cp ls w (min n 8)) bMu rfl ?_ ?_
  · rintro a' w' ⟨k, v, l, hk, hf, hb, hg, hll, rfl⟩
    obtain ⟨x1, l1, rfl, h1⟩ := cons_of l hll; clear hll
    obtain ⟨x2, l2, rfl, h2⟩ := cons_of l1 h1; clear h1
    obtain ⟨x3, l3, rfl, h3⟩ := cons_of l2 h2; clear h2
    obtain ⟨x4, l4, rfl, h4⟩ := cons_of l3 h3; clear h3
    obtain ⟨x5, l5, rfl, h5⟩ := cons_of l4 h4; clear h4
    obtain ⟨x6, l6, rfl, h6⟩ := cons_of l5 h5; clear h5
    obtain ⟨x7, l7, rfl, h7⟩ := cons_of l6 h6; clear h6
    obtain ⟨x8, l8, rfl, h8⟩ := cons_of l7 h7; clear h7
    obtain ⟨x9, l9, rfl, h9⟩ := cons_of l8 h8; clear h8
    obtain ⟨x10, l10, rfl, h10⟩ := cons_of l9 h9; clear h9
    obtain ⟨x11, l11, rfl, h11⟩ := cons_of l10 h10; clear h10
    obtain ⟨x12, l12, rfl, h12⟩ := cons_of l11 h11; clear h11
    obtain ⟨x13, l13, rfl, h13⟩ := cons_of l12 h12; clear h12
    obtain ⟨x14, l14, rfl, h14⟩ := cons_of l13 h13; clear h13
    obtain ⟨x15, l15, rfl, h15⟩ := cons_of l14 h14; clear h14
    obtain ⟨x16, l16, rfl, h16⟩ := cons_of l15 h15; clear h15
    obtain ⟨x17, l17, rfl, h17⟩ := cons_of l16 h16; clear h16
    obtain ⟨x18, l18, rfl, h18⟩ := cons_of l17 h17; clear h17
    obtain ⟨x19, l19, rfl, h19⟩ := cons_of l18 h18; clear h18
    obtain ⟨x20, l20, rfl, h20⟩ := cons_of l19 h19; clear h19
    obtain ⟨x21, l21, rfl, h21⟩ := cons_of l20 h20; clear h20
    obtain ⟨x22, l22, rfl, h22⟩ := cons_of l21 h21; clear h21
    obtain rfl := List.eq_nil_of_length_eq_zero h22; clear h22
    have HF : Hid (fit c i ls (min n 8) = fit c i ls k) := hf
    have HB : Hid (Below w.heap.size w w') := hb
    have HG : Hid (w'.heap[w.heap.size]? = some (.cells #[.int .i64 3, .int .i64 c, .int .i64 i, v, .slice none 0 0] 34 (0, 0))) := hg
    have d0 : w'.cell? ⟨w.heap.size, 0, none⟩ = some (.int .i64 3) := cell_of_row _ _ _ _ _ _ hg
    have d1 : w'.cell? ⟨w.heap.size, 1, none⟩ = some (.int .i64 c) := cell_of_row _ _ _ _ _ _ hg
    have d2 : w'.cell? ⟨w.heap.size, 2, none⟩ = some (.int .i64 i) := cell_of_row _ _ _ _ _ _ hg
    have d3 : w'.cell? ⟨w.heap.size, 3, none⟩ = some v := cell_of_row _ _ _ _ _ _ hg
    have d4 : w'.cell? ⟨w.heap.size, 4, none⟩ = some (.slice none 0 0) := cell_of_row _ _ _ _ _ _ hg
    have f3 : w'.frozen? ⟨w.heap.size, 3, none⟩ = false := frozen_of_row _ _ _ _ _ hg
    have hsl := slice_h q n cp k (by omega)
    obtain ⟨w2, HW2⟩ : ∃ w2, Hid (w2 = w'.setCell ⟨w.heap.size, 3, none⟩ (.slice q k cp)) := ⟨_, rfl⟩
    have hb2 : Below w.heap.size w w2 := by rw [HW2.out]; exact hb.setCell (p := ⟨w.heap.size, 3, none⟩) (Nat.le_refl _) _
    have hg2 : w2.heap[w.heap.size]? = some (.cells #[.int .i64 3, .int .i64 c, .int .i64 i, .slice q k cp, .slice none 0 0] 34 (0, 0)) := by
      rw [HW2.out]
      exact heap_setCell_same _ _ 3 _ 34 _ hg
    have HG2 : Hid (w2.heap[w.heap.size]? = some (.cells #[.int .i64 3, .int .i64 c, .int .i64 i, .slice q k cp, .slice none 0 0] 34 (0, 0))) := hg2
    have HB2 : Hid (Below w.heap.size w w2) := hb2
    have hlen : (ls.take k).length = k := by rw [List.length_take]; have := HN.out; omega
    have hrt := bat_right HC.out HI.out HW.out (k := k) (by omega)
    have hfr : FrIs w2 (.agg #[.int .i64 3, .int .i64 c, .int .i64 i, .slice q k cp, .slice none 0 0]) ⟨3, c, i, ls.take k, []⟩ :=
      ⟨q, cp, none, 0, by simp only [FrV, hlen]; rfl, row_take (HL.out.below hb2) k, Src.nil _, by simp only [hlen]; omega, Nat.zero_le _⟩
    have k1 : (0 : Int) ≤ (k : Int) := by omega
    have k2 : (k : Int) ≤ 64 := by omega
    by_cases hz : (F17.bytes ⟨3, c, i, ls.take k, []⟩).length ≤ 32768
    · have HE : ∀ W, W = w'.setCell ⟨w.heap.size, 3, none⟩ (.slice q k cp) → Calls Try.prog 40 #[.agg #[.int .i64 3, .int .i64 c, .int .i64 i, .slice q k cp, .slice none 0 0]] W fun e w3 => ∃ v, e = .returned (.tuple #[v, .int .i64 0]) ∧ Hid (Src w3 v (bat c i ls) ∧ Below w.heap.size w w3) := by
        rintro W hW
        rw [← HW2.out] at hW
        subst hW
        refine (Encode_any _ _ W hfr).mono ?_
        rintro e w3 ⟨h1, ⟨_, _, v, rfl, h2⟩ | ⟨_, h2, _⟩ | ⟨h2, _⟩⟩
        · refine ⟨v, rfl, ?_, hb2.trans (h1.mono hb2.size)⟩
          have e1 : bat c i ls = F17.bytes ⟨3, c, i, ls.take k, []⟩ := by
            unfold bat
            rw [HN.out, HF.out, fit_ok c i ls hz]
          rw [e1]
          exact Src.own (F17.bytes_small ⟨fun y hy => (HW.out.2 y (List.mem_of_mem_take hy)).2, fun x hx => by simp at hx⟩) h2
        · omega
        · rw [hrt] at h2
          cases h2
      clear hb hg hb2 hg2 hfr hrt hlen hf
      go_wp2_with (first | (go_at_call 40; refine (HE _ rfl).mono ?_; rintro e w3 ⟨v3, rfl, H3⟩))
      simp only [Exit.jump]
      go_ret
      exact ⟨_, rfl, H3.out.1, H3.out.2⟩
    · have hkp : 0 < k := by
        rcases Nat.eq_zero_or_pos k with rfl | h
        · exact absurd (bat_zero c i ls) hz
        · exact h
      have HE : ∀ W, W = w'.setCell ⟨w.heap.size, 3, none⟩ (.slice q k cp) → Calls Try.prog 40 #[.agg #[.int .i64 3, .int .i64 c, .int .i64 i, .slice q k cp, .slice none 0 0]] W fun e w3 => e = .returned (.tuple #[.slice none 0 0, .int .i64 11]) ∧ Hid (Below w2.heap.size w2 w3) := by
        rintro W hW
        rw [← HW2.out] at hW
        subst hW
        refine (Encode_any _ _ W hfr).mono ?_
        rintro e w3 ⟨h1, ⟨_, h2, _⟩ | ⟨_, h2, rfl⟩ | ⟨h2, _⟩⟩
        · exact absurd h2 hz
        · exact ⟨rfl, h1⟩
        · rw [hrt] at h2
          cases h2
      have HF2 : Hid (fit c i ls (min n 8) = fit c i ls (k - 1)) := by
        show _ = _
        rw [HF.out, show k = (k - 1) + 1 from by omega, fit_no c i ls (by rw [show (k - 1) + 1 = k from by omega]; omega)]
        rfl
      have k3 : ((k : Int) - 1) = ((k - 1 : Nat) : Int) := by omega
      clear hb hg hb2 hg2 hfr hrt hlen hf hz
      go_wp2_with (first | (go_at_call 40; refine (HE _ rfl).mono ?_; rintro e w3 ⟨rfl, H3⟩))
      go_step3
      refine ⟨rfl, ⟨k - 1, .slice q k cp, _, by omega, HF2.out, HB2.out.trans (H3.out.mono HB2.out.size), (H3.out.block _ (Array.getElem?_eq_some_iff.1 HG2.out).1).trans HG2.out, ?_, rfl⟩, ?_⟩
      · rfl
      · simp [bMu, intOf]
        omega
  · intro hp
    have h0 : ∀ t : Nat, t = min n 8 → ∀ l : List Value, l.length = 22 → bJ c i q n cp ls w (min n 8) { tmps := (.int .i64 c :: .int .i64 i :: .slice q n cp :: undef :: undef :: undef :: .slice none 0 0 :: .pointer (some ⟨w.heap.size, 0, none⟩) :: .int .i64 (t : Int) :: l).toArray, defers := [] } (w.alloc (.cells #[.int .i64 3, .int .i64 c, .int .i64 i, .slice none 0 0, .slice none 0 0] 34)) := by
      rintro t rfl l hl
      exact ⟨_, _, l, Nat.le_refl _, rfl, (Below.refl _ w).alloc (Nat.le_refl _) _, heap_alloc_new w _, hl, rfl⟩
    by_cases h8 : n ≤ 8
    · have q8 : (n : Int) ≤ 8 := by omega
      have q9 : ¬ (8 : Int) < (n : Int) := by omega
      go_wp2_with fail
      go_step3
      rename_i K hK
      refine hK _ _ (hp _ _ (h0 n (by omega) _ ?_))
      rfl
    · have q8 : ¬ (n : Int) ≤ 8 := by omega
      have q9 : (8 : Int) < (n : Int) := by omega
      go_wp2_with fail
      go_step3
      rename_i K hK
      refine hK _ _ (hp _ _ (h0 8 (by omega) _ ?_))
      rfl
end Go.Proofs.Ytchoiioeeepoaaa.V19
