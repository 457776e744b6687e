/- The contract of mixed: ten rounds, by goto. -/
import Derived.Test.YtnceiccciaihoaaC3Mixed
namespace Go.Proofs.Ytnceiccciaihoaa.C3
open Go.RowKit
def zeros16 : Array Value := arr .u32 (List.replicate 16 0)
def mixW (w : World) (s : List Nat) : World := (w.alloc (Obj.cells (arr .u32 s) 45)).alloc (Obj.cells zeros16 45)
theorem mixW_0 (w : World) (s : List Nat) : StAt (mixW w s) w.heap.size s := by
  show ((w.heap.push _).push _)[_]? = _
  rw [Array.getElem?_push_lt (by simp), Array.getElem_push_eq]
theorem mixW_1 (w : World) (s : List Nat) : (mixW w s).heap[w.heap.size + 1]? = some (Obj.cells zeros16 45) := by
  show ((w.heap.push _).push _)[_]? = _
  rw [Array.getElem?_push, if_pos (by simp)]
theorem mixW_below (w : World) (s : List Nat) : Below w.heap.size w (mixW w s) := ((Below.refl _ _).alloc (Nat.le_refl _) _).alloc (by simp) _
theorem mixW_size (w : World) (s : List Nat) : (mixW w s).heap.size = w.heap.size + 2 := by simp [mixW]
theorem info41 : (Try.prog.info? 45).map (·.size) = some 16 := by kernel_rfl
theorem under41 : Try.prog.underlying 45 = some (.array 16 43) := by kernel_rfl
/-- Behind some rounds: the state at its block, all else as it was. -/
structure MixAtR (w : World) (s r : List Nat) (w' : World) : Prop where
  st : StAt w' w.heap.size r
  gr : World.grownBy (mixW w s) w' (some w.heap.size)
theorem MixAtR.below {w w' : World} {s r : List Nat} (h : MixAtR w s r w') : Below w.heap.size w w' := by
  have hb := mixW_below w s
  refine ⟨h.gr.os.trans hb.os, h.gr.tape.trans hb.tape, h.gr.output.trans hb.output, Nat.le_trans hb.size h.gr.size, fun k hk => ?_⟩
  rw [h.gr.block k (by rw [mixW_size]; omega) (by simp; omega)]
  exact hb.block k hk
theorem MixAtR.there {w w' : World} {s r : List Nat} (h : MixAtR w s r w') : w'.there (w.heap.size + 1) 0 16 := by
  have e := h.gr.block (w.heap.size + 1) (by rw [mixW_size]; omega) (by simp)
  exact there_of_row (e.trans (mixW_1 w s)) 16 (by simp [zeros16, arr_size])
def MixAt (w : World) (s : List Nat) (t : Nat) (w' : World) : Prop := MixAtR w s (Ch.rounds s t) w'
theorem MixAt.step {w w1 w' : World} {s : List Nat} {t : Nat} (h : MixAt w s t w1) (h1 : StAt w' w.heap.size (Ch.round (Ch.rounds s t))) (h2 : World.grownBy w1 w' (some w.heap.size)) : MixAt w s (t + 1) w' := ⟨h1, grownBy_trans h.gr h2⟩
def mixJ (w : World) (s : List Nat) (a' : Act) (w' : World) : Prop :=
  ∃ (t n : Nat) (l : List Value), t + n = 10 ∧ 0 < n ∧ MixAt w s t w' ∧ l.length = 13 ∧ a' = { tmps := (.agg (arr .u32 s) :: .pointer (some ⟨w.heap.size, 0, none⟩) :: .pointer (some ⟨w.heap.size + 1, 0, none⟩) :: .int .i64 n :: l).toArray, defers := [] }
theorem cons_of {n : Nat} : ∀ (l : List Value), l.length = n + 1 → ∃ x l', l = x :: l' ∧ l'.length = n
  | x :: l', h => ⟨x, l', rfl, by simpa using h⟩
def mixMu (a' : Act) (_ : World) : Nat := (intOf (a'.tmps.getD 3 undef)).toNat
theorem zeros16_eq : #[Value.int IntKind.u32 0, Value.int IntKind.u32 0, Value.int IntKind.u32 0, Value.int IntKind.u32 0, Value.int IntKind.u32 0, Value.int IntKind.u32 0, Value.int IntKind.u32 0, Value.int IntKind.u32 0, Value.int IntKind.u32 0, Value.int IntKind.u32 0, Value.int IntKind.u32 0, Value.int IntKind.u32 0, Value.int IntKind.u32 0, Value.int IntKind.u32 0, Value.int IntKind.u32 0, Value.int IntKind.u32 0] = zeros16 := rfl
set_option maxHeartbeats 1000000 in
theorem mixed_any (s : List Nat) (w : World) (hs : Ch.Ok s) :
    Calls Try.prog 39 #[.agg (arr .u32 s)] w fun e w' => e = .returned (.agg (arr .u32 (Ch.rounds s 10))) ∧ Below w.heap.size w w' := by
  have HS : Hid (Ch.Ok s) := hs
  obtain ⟨R, hR⟩ : ∃ R, Ch.rounds s 10 = R := ⟨_, rfl⟩
  rw [hR]
  have HRR : Hid ((∀ w8, MixAt w s 10 w8 → MixAtR w s R w8) ∧ R.length = 16) := ⟨fun w8 h => hR ▸ h, by rw [← hR]; exact (Ch.rounds_ok hs 10).1⟩
  clear hs hR
  go_enter Try.func39, Try.ntmps39
  go_wp2_with fail
  rw [zeros16_eq]
  rw [show (w.alloc (Obj.cells (arr .u32 s) 45)).alloc (Obj.cells zeros16 45) = mixW w s from rfl]
  refine wp_scope_jumps 0 (mixJ w s) mixMu rfl ?_ ?_
  · have H0 : Hid (StAt (mixW w s) w.heap.size s) := mixW_0 w s
    generalize hW0 : mixW w s = W0 at *
    go_wp2_with fail
    go_step3
    go_wp2_with fail
    refine (q_0_4 s w.heap.size _ HS.out H0.out).mono ?_
    rintro e w1 ⟨rfl, h1, g1⟩
    have H1 : Hid (StAt w1 w.heap.size (Ch.quarter s 0 4 8 12)) := h1
    have G1 : Hid (World.grownBy W0 w1 (some w.heap.size)) := g1
    clear h1 g1
    go_wp2_with fail
    refine (q_1_5 (Ch.quarter s 0 4 8 12) w.heap.size _ (Ch.quarter_ok HS.out 0 4 8 12) H1.out).mono ?_
    rintro e w2 ⟨rfl, h1, g1⟩
    have H2 : Hid (StAt w2 w.heap.size (Ch.quarter (Ch.quarter s 0 4 8 12) 1 5 9 13)) := h1
    have G2 : Hid (World.grownBy W0 w2 (some w.heap.size)) := grownBy_trans G1.out g1
    clear h1 g1 H1 G1
    go_wp2_with fail
    refine (q_2_6 (Ch.quarter (Ch.quarter s 0 4 8 12) 1 5 9 13) w.heap.size _ (Ch.quarter_ok (Ch.quarter_ok HS.out 0 4 8 12) 1 5 9 13) H2.out).mono ?_
    rintro e w3 ⟨rfl, h1, g1⟩
    have H3 : Hid (StAt w3 w.heap.size (Ch.quarter (Ch.quarter (Ch.quarter s 0 4 8 12) 1 5 9 13) 2 6 10 14)) := h1
    have G3 : Hid (World.grownBy W0 w3 (some w.heap.size)) := grownBy_trans G2.out g1
    clear h1 g1 H2 G2
    go_wp2_with fail
    refine (q_3_7 (Ch.quarter (Ch.quarter (Ch.quarter s 0 4 8 12) 1 5 9 13) 2 6 10 14) w.heap.size _ (Ch.quarter_ok (Ch.quarter_ok (Ch.quarter_ok HS.out 0 4 8 12) 1 5 9 13) 2 6 10 14) H3.out).mono ?_
    rintro e w4 ⟨rfl, h1, g1⟩
    have H4 : Hid (StAt w4 w.heap.size (Ch.quarter (Ch.quarter (Ch.quarter (Ch.quarter s 0 4 8 12) 1 5 9 13) 2 6 10 14) 3 7 11 15)) := h1
    have G4 : Hid (World.grownBy W0 w4 (some w.heap.size)) := grownBy_trans G3.out g1
    clear h1 g1 H3 G3
    go_wp2_with fail
    refine (q_0_5 (Ch.quarter (Ch.quarter (Ch.quarter (Ch.quarter s 0 4 8 12) 1 5 9 13) 2 6 10 14) 3 7 11 15) w.heap.size _ (Ch.quarter_ok (Ch.quarter_ok (Ch.quarter_ok (Ch.quarter_ok HS.out 0 4 8 12) 1 5 9 13) 2 6 10 14) 3 7 11 15) H4.out).mono ?_
    rintro e w5 ⟨rfl, h1, g1⟩
    have H5 : Hid (StAt w5 w.heap.size (Ch.quarter (Ch.quarter (Ch.quarter (Ch.quarter (Ch.quarter s 0 4 8 12) 1 5 9 13) 2 6 10 14) 3 7 11 15) 0 5 10 15)) := h1
    have G5 : Hid (World.grownBy W0 w5 (some w.heap.size)) := grownBy_trans G4.out g1
    clear h1 g1 H4 G4
    go_wp2_with fail
    refine (q_1_6 (Ch.quarter (Ch.quarter (Ch.quarter (Ch.quarter (Ch.quarter s 0 4 8 12) 1 5 9 13) 2 6 10 14) 3 7 11 15) 0 5 10 15) w.heap.size _ (Ch.quarter_ok (Ch.quarter_ok (Ch.quarter_ok (Ch.quarter_ok (Ch.quarter_ok HS.out 0 4 8 12) 1 5 9 13) 2 6 10 14) 3 7 11 15) 0 5 10 15) H5.out).mono ?_
    rintro e w6 ⟨rfl, h1, g1⟩
    have H6 : Hid (StAt w6 w.heap.size (Ch.quarter (Ch.quarter (Ch.quarter (Ch.quarter (Ch.quarter (Ch.quarter s 0 4 8 12) 1 5 9 13) 2 6 10 14) 3 7 11 15) 0 5 10 15) 1 6 11 12)) := h1
    have G6 : Hid (World.grownBy W0 w6 (some w.heap.size)) := grownBy_trans G5.out g1
    clear h1 g1 H5 G5
    go_wp2_with fail
    refine (q_2_7 (Ch.quarter (Ch.quarter (Ch.quarter (Ch.quarter (Ch.quarter (Ch.quarter s 0 4 8 12) 1 5 9 13) 2 6 10 14) 3 7 11 15) 0 5 10 15) 1 6 11 12) w.heap.size _ (Ch.quarter_ok (Ch.quarter_ok (Ch.quarter_ok (Ch.quarter_ok (Ch.quarter_ok (Ch.quarter_ok HS.out 0 4 8 12) 1 5 9 13) 2 6 10 14) 3 7 11 15) 0 5 10 15) 1 6 11 12) H6.out).mono ?_
    rintro e w7 ⟨rfl, h1, g1⟩
    have H7 : Hid (StAt w7 w.heap.size (Ch.quarter (Ch.quarter (Ch.quarter (Ch.quarter (Ch.quarter (Ch.quarter (Ch.quarter s 0 4 8 12) 1 5 9 13) 2 6 10 14) 3 7 11 15) 0 5 10 15) 1 6 11 12) 2 7 8 13)) := h1
    have G7 : Hid (World.grownBy W0 w7 (some w.heap.size)) := grownBy_trans G6.out g1
    clear h1 g1 H6 G6
    go_wp2_with fail
    refine (q_3_4 (Ch.quarter (Ch.quarter (Ch.quarter (Ch.quarter (Ch.quarter (Ch.quarter (Ch.quarter s 0 4 8 12) 1 5 9 13) 2 6 10 14) 3 7 11 15) 0 5 10 15) 1 6 11 12) 2 7 8 13) w.heap.size _ (Ch.quarter_ok (Ch.quarter_ok (Ch.quarter_ok (Ch.quarter_ok (Ch.quarter_ok (Ch.quarter_ok (Ch.quarter_ok HS.out 0 4 8 12) 1 5 9 13) 2 6 10 14) 3 7 11 15) 0 5 10 15) 1 6 11 12) 2 7 8 13) H7.out).mono ?_
    rintro e w8 ⟨rfl, h1, g1⟩
    have H8 : Hid (StAt w8 w.heap.size (Ch.quarter (Ch.quarter (Ch.quarter (Ch.quarter (Ch.quarter (Ch.quarter (Ch.quarter (Ch.quarter s 0 4 8 12) 1 5 9 13) 2 6 10 14) 3 7 11 15) 0 5 10 15) 1 6 11 12) 2 7 8 13) 3 4 9 14)) := h1
    have G8 : Hid (World.grownBy W0 w8 (some w.heap.size)) := grownBy_trans G7.out g1
    clear h1 g1 H7 G7
    clear H0
    go_wp2_with fail
    go_step3
    refine ⟨rfl, 1, 9, _, by decide, by decide, ⟨H8.out, by rw [hW0]; exact G8.out⟩, ?_, rfl⟩
    rfl
  · rintro a' w' ⟨t, n, l, htn, hn, hm, hll, rfl⟩
    obtain ⟨u4, l4, rfl, h4⟩ := cons_of l hll; clear hll
    obtain ⟨u5, l5, rfl, h5⟩ := cons_of l4 h4; clear h4
    obtain ⟨u6, l6, rfl, h6⟩ := cons_of l5 h5; clear h5
    obtain ⟨u7, l7, rfl, h7⟩ := cons_of l6 h6; clear h6
    obtain ⟨u8, l8, rfl, h8⟩ := cons_of l7 h7; clear h7
    obtain ⟨u9, l9, rfl, h9⟩ := cons_of l8 h8; clear h8
    obtain ⟨u10, l10, rfl, h10⟩ := cons_of l9 h9; clear h9
    obtain ⟨u11, l11, rfl, h11⟩ := cons_of l10 h10; clear h10
    obtain ⟨u12, l12, rfl, h12⟩ := cons_of l11 h11; clear h11
    obtain ⟨u13, l13, rfl, h13⟩ := cons_of l12 h12; clear h12
    obtain ⟨u14, l14, rfl, h14⟩ := cons_of l13 h13; clear h13
    obtain ⟨u15, l15, rfl, h15⟩ := cons_of l14 h14; clear h14
    obtain ⟨u16, l16, rfl, h16⟩ := cons_of l15 h15; clear h15
    obtain rfl := List.eq_nil_of_length_eq_zero h16; clear h16
    have HP : Hid (∀ w8, StAt w8 w.heap.size (Ch.round (Ch.rounds s t)) → World.grownBy w' w8 (some w.heap.size) → MixAt w s (t + 1) w8) := fun _ => hm.step
    have HO : Hid (Ch.Ok (Ch.rounds s t)) := Ch.rounds_ok HS.out t
    have H0 : Hid (StAt w' w.heap.size (Ch.rounds s t)) := hm.st
    clear hm
    generalize hr : Ch.rounds s t = r at *
    clear hr
    have HTN : Hid (t + n = 10) := htn
    have n1 : (1 : Int) ≤ (n : Int) := by omega
    have n2 : (n : Int) ≤ 10 := by omega
    clear htn
    by_cases hlast : 1 < n
    · have t1 : (0 : Int) < (n : Int) - 1 := by omega
      go_wp2_with fail
      refine (q_0_4 r w.heap.size _ HO.out H0.out).mono ?_
      rintro e w1 ⟨rfl, h1, g1⟩
      have H1 : Hid (StAt w1 w.heap.size (Ch.quarter r 0 4 8 12)) := h1
      have G1 : Hid (World.grownBy w' w1 (some w.heap.size)) := g1
      clear h1 g1
      go_wp2_with fail
      refine (q_1_5 (Ch.quarter r 0 4 8 12) w.heap.size _ (Ch.quarter_ok HO.out 0 4 8 12) H1.out).mono ?_
      rintro e w2 ⟨rfl, h1, g1⟩
      have H2 : Hid (StAt w2 w.heap.size (Ch.quarter (Ch.quarter r 0 4 8 12) 1 5 9 13)) := h1
      have G2 : Hid (World.grownBy w' w2 (some w.heap.size)) := grownBy_trans G1.out g1
      clear h1 g1 H1 G1
      go_wp2_with fail
      refine (q_2_6 (Ch.quarter (Ch.quarter r 0 4 8 12) 1 5 9 13) w.heap.size _ (Ch.quarter_ok (Ch.quarter_ok HO.out 0 4 8 12) 1 5 9 13) H2.out).mono ?_
      rintro e w3 ⟨rfl, h1, g1⟩
      have H3 : Hid (StAt w3 w.heap.size (Ch.quarter (Ch.quarter (Ch.quarter r 0 4 8 12) 1 5 9 13) 2 6 10 14)) := h1
      have G3 : Hid (World.grownBy w' w3 (some w.heap.size)) := grownBy_trans G2.out g1
      clear h1 g1 H2 G2
      go_wp2_with fail
      refine (q_3_7 (Ch.quarter (Ch.quarter (Ch.quarter r 0 4 8 12) 1 5 9 13) 2 6 10 14) w.heap.size _ (Ch.quarter_ok (Ch.quarter_ok (Ch.quarter_ok HO.out 0 4 8 12) 1 5 9 13) 2 6 10 14) H3.out).mono ?_
      rintro e w4 ⟨rfl, h1, g1⟩
      have H4 : Hid (StAt w4 w.heap.size (Ch.quarter (Ch.quarter (Ch.quarter (Ch.quarter r 0 4 8 12) 1 5 9 13) 2 6 10 14) 3 7 11 15)) := h1
      have G4 : Hid (World.grownBy w' w4 (some w.heap.size)) := grownBy_trans G3.out g1
      clear h1 g1 H3 G3
      go_wp2_with fail
      refine (q_0_5 (Ch.quarter (Ch.quarter (Ch.quarter (Ch.quarter r 0 4 8 12) 1 5 9 13) 2 6 10 14) 3 7 11 15) w.heap.size _ (Ch.quarter_ok (Ch.quarter_ok (Ch.quarter_ok (Ch.quarter_ok HO.out 0 4 8 12) 1 5 9 13) 2 6 10 14) 3 7 11 15) H4.out).mono ?_
      rintro e w5 ⟨rfl, h1, g1⟩
      have H5 : Hid (StAt w5 w.heap.size (Ch.quarter (Ch.quarter (Ch.quarter (Ch.quarter (Ch.quarter r 0 4 8 12) 1 5 9 13) 2 6 10 14) 3 7 11 15) 0 5 10 15)) := h1
      have G5 : Hid (World.grownBy w' w5 (some w.heap.size)) := grownBy_trans G4.out g1
      clear h1 g1 H4 G4
      go_wp2_with fail
      refine (q_1_6 (Ch.quarter (Ch.quarter (Ch.quarter (Ch.quarter (Ch.quarter r 0 4 8 12) 1 5 9 13) 2 6 10 14) 3 7 11 15) 0 5 10 15) w.heap.size _ (Ch.quarter_ok (Ch.quarter_ok (Ch.quarter_ok (Ch.quarter_ok (Ch.quarter_ok HO.out 0 4 8 12) 1 5 9 13) 2 6 10 14) 3 7 11 15) 0 5 10 15) H5.out).mono ?_
      rintro e w6 ⟨rfl, h1, g1⟩
      have H6 : Hid (StAt w6 w.heap.size (Ch.quarter (Ch.quarter (Ch.quarter (Ch.quarter (Ch.quarter (Ch.quarter r 0 4 8 12) 1 5 9 13) 2 6 10 14) 3 7 11 15) 0 5 10 15) 1 6 11 12)) := h1
      have G6 : Hid (World.grownBy w' w6 (some w.heap.size)) := grownBy_trans G5.out g1
      clear h1 g1 H5 G5
      go_wp2_with fail
      refine (q_2_7 (Ch.quarter (Ch.quarter (Ch.quarter (Ch.quarter (Ch.quarter (Ch.quarter r 0 4 8 12) 1 5 9 13) 2 6 10 14) 3 7 11 15) 0 5 10 15) 1 6 11 12) w.heap.size _ (Ch.quarter_ok (Ch.quarter_ok (Ch.quarter_ok (Ch.quarter_ok (Ch.quarter_ok (Ch.quarter_ok HO.out 0 4 8 12) 1 5 9 13) 2 6 10 14) 3 7 11 15) 0 5 10 15) 1 6 11 12) H6.out).mono ?_
      rintro e w7 ⟨rfl, h1, g1⟩
      have H7 : Hid (StAt w7 w.heap.size (Ch.quarter (Ch.quarter (Ch.quarter (Ch.quarter (Ch.quarter (Ch.quarter (Ch.quarter r 0 4 8 12) 1 5 9 13) 2 6 10 14) 3 7 11 15) 0 5 10 15) 1 6 11 12) 2 7 8 13)) := h1
      have G7 : Hid (World.grownBy w' w7 (some w.heap.size)) := grownBy_trans G6.out g1
      clear h1 g1 H6 G6
      go_wp2_with fail
      refine (q_3_4 (Ch.quarter (Ch.quarter (Ch.quarter (Ch.quarter (Ch.quarter (Ch.quarter (Ch.quarter r 0 4 8 12) 1 5 9 13) 2 6 10 14) 3 7 11 15) 0 5 10 15) 1 6 11 12) 2 7 8 13) w.heap.size _ (Ch.quarter_ok (Ch.quarter_ok (Ch.quarter_ok (Ch.quarter_ok (Ch.quarter_ok (Ch.quarter_ok (Ch.quarter_ok HO.out 0 4 8 12) 1 5 9 13) 2 6 10 14) 3 7 11 15) 0 5 10 15) 1 6 11 12) 2 7 8 13) H7.out).mono ?_
      rintro e w8 ⟨rfl, h1, g1⟩
      have H8 : Hid (StAt w8 w.heap.size (Ch.quarter (Ch.quarter (Ch.quarter (Ch.quarter (Ch.quarter (Ch.quarter (Ch.quarter (Ch.quarter r 0 4 8 12) 1 5 9 13) 2 6 10 14) 3 7 11 15) 0 5 10 15) 1 6 11 12) 2 7 8 13) 3 4 9 14)) := h1
      have G8 : Hid (World.grownBy w' w8 (some w.heap.size)) := grownBy_trans G7.out g1
      clear h1 g1 H7 G7
      clear H0 HO
      go_wp2_with fail
      go_step3
      rw [show (n : Int) - 1 = ((n - 1 : Nat) : Int) from by omega]
      refine ⟨rfl, ⟨t + 1, n - 1, _, by have := HTN.out; omega, by omega, HP.out _ H8.out G8.out, ?_, rfl⟩, ?_⟩
      · rfl
      · show (intOf (Value.int .i64 _)).toNat < (intOf (Value.int .i64 _)).toNat
        simp only [intOf]
        omega
    · obtain rfl : n = 1 := by omega
      obtain rfl : t = 9 := by have := HTN.out; omega
      go_wp2_with fail
      refine (q_0_4 r w.heap.size _ HO.out H0.out).mono ?_
      rintro e w1 ⟨rfl, h1, g1⟩
      have H1 : Hid (StAt w1 w.heap.size (Ch.quarter r 0 4 8 12)) := h1
      have G1 : Hid (World.grownBy w' w1 (some w.heap.size)) := g1
      clear h1 g1
      go_wp2_with fail
      refine (q_1_5 (Ch.quarter r 0 4 8 12) w.heap.size _ (Ch.quarter_ok HO.out 0 4 8 12) H1.out).mono ?_
      rintro e w2 ⟨rfl, h1, g1⟩
      have H2 : Hid (StAt w2 w.heap.size (Ch.quarter (Ch.quarter r 0 4 8 12) 1 5 9 13)) := h1
      have G2 : Hid (World.grownBy w' w2 (some w.heap.size)) := grownBy_trans G1.out g1
      clear h1 g1 H1 G1
      go_wp2_with fail
      refine (q_2_6 (Ch.quarter (Ch.quarter r 0 4 8 12) 1 5 9 13) w.heap.size _ (Ch.quarter_ok (Ch.quarter_ok HO.out 0 4 8 12) 1 5 9 13) H2.out).mono ?_
      rintro e w3 ⟨rfl, h1, g1⟩
      have H3 : Hid (StAt w3 w.heap.size (Ch.quarter (Ch.quarter (Ch.quarter r 0 4 8 12) 1 5 9 13) 2 6 10 14)) := h1
      have G3 : Hid (World.grownBy w' w3 (some w.heap.size)) := grownBy_trans G2.out g1
      clear h1 g1 H2 G2
      go_wp2_with fail
      refine (q_3_7 (Ch.quarter (Ch.quarter (Ch.quarter r 0 4 8 12) 1 5 9 13) 2 6 10 14) w.heap.size _ (Ch.quarter_ok (Ch.quarter_ok (Ch.quarter_ok HO.out 0 4 8 12) 1 5 9 13) 2 6 10 14) H3.out).mono ?_
      rintro e w4 ⟨rfl, h1, g1⟩
      have H4 : Hid (StAt w4 w.heap.size (Ch.quarter (Ch.quarter (Ch.quarter (Ch.quarter r 0 4 8 12) 1 5 9 13) 2 6 10 14) 3 7 11 15)) := h1
      have G4 : Hid (World.grownBy w' w4 (some w.heap.size)) := grownBy_trans G3.out g1
      clear h1 g1 H3 G3
      go_wp2_with fail
      refine (q_0_5 (Ch.quarter (Ch.quarter (Ch.quarter (Ch.quarter r 0 4 8 12) 1 5 9 13) 2 6 10 14) 3 7 11 15) w.heap.size _ (Ch.quarter_ok (Ch.quarter_ok (Ch.quarter_ok (Ch.quarter_ok HO.out 0 4 8 12) 1 5 9 13) 2 6 10 14) 3 7 11 15) H4.out).mono ?_
      rintro e w5 ⟨rfl, h1, g1⟩
      have H5 : Hid (StAt w5 w.heap.size (Ch.quarter (Ch.quarter (Ch.quarter (Ch.quarter (Ch.quarter r 0 4 8 12) 1 5 9 13) 2 6 10 14) 3 7 11 15) 0 5 10 15)) := h1
      have G5 : Hid (World.grownBy w' w5 (some w.heap.size)) := grownBy_trans G4.out g1
      clear h1 g1 H4 G4
      go_wp2_with fail
      refine (q_1_6 (Ch.quarter (Ch.quarter (Ch.quarter (Ch.quarter (Ch.quarter r 0 4 8 12) 1 5 9 13) 2 6 10 14) 3 7 11 15) 0 5 10 15) w.heap.size _ (Ch.quarter_ok (Ch.quarter_ok (Ch.quarter_ok (Ch.quarter_ok (Ch.quarter_ok HO.out 0 4 8 12) 1 5 9 13) 2 6 10 14) 3 7 11 15) 0 5 10 15) H5.out).mono ?_
      rintro e w6 ⟨rfl, h1, g1⟩
      have H6 : Hid (StAt w6 w.heap.size (Ch.quarter (Ch.quarter (Ch.quarter (Ch.quarter (Ch.quarter (Ch.quarter r 0 4 8 12) 1 5 9 13) 2 6 10 14) 3 7 11 15) 0 5 10 15) 1 6 11 12)) := h1
      have G6 : Hid (World.grownBy w' w6 (some w.heap.size)) := grownBy_trans G5.out g1
      clear h1 g1 H5 G5
      go_wp2_with fail
      refine (q_2_7 (Ch.quarter (Ch.quarter (Ch.quarter (Ch.quarter (Ch.quarter (Ch.quarter r 0 4 8 12) 1 5 9 13) 2 6 10 14) 3 7 11 15) 0 5 10 15) 1 6 11 12) w.heap.size _ (Ch.quarter_ok (Ch.quarter_ok (Ch.quarter_ok (Ch.quarter_ok (Ch.quarter_ok (Ch.quarter_ok HO.out 0 4 8 12) 1 5 9 13) 2 6 10 14) 3 7 11 15) 0 5 10 15) 1 6 11 12) H6.out).mono ?_
      rintro e w7 ⟨rfl, h1, g1⟩
      have H7 : Hid (StAt w7 w.heap.size (Ch.quarter (Ch.quarter (Ch.quarter (Ch.quarter (Ch.quarter (Ch.quarter (Ch.quarter r 0 4 8 12) 1 5 9 13) 2 6 10 14) 3 7 11 15) 0 5 10 15) 1 6 11 12) 2 7 8 13)) := h1
      have G7 : Hid (World.grownBy w' w7 (some w.heap.size)) := grownBy_trans G6.out g1
      clear h1 g1 H6 G6
      go_wp2_with fail
      refine (q_3_4 (Ch.quarter (Ch.quarter (Ch.quarter (Ch.quarter (Ch.quarter (Ch.quarter (Ch.quarter r 0 4 8 12) 1 5 9 13) 2 6 10 14) 3 7 11 15) 0 5 10 15) 1 6 11 12) 2 7 8 13) w.heap.size _ (Ch.quarter_ok (Ch.quarter_ok (Ch.quarter_ok (Ch.quarter_ok (Ch.quarter_ok (Ch.quarter_ok (Ch.quarter_ok HO.out 0 4 8 12) 1 5 9 13) 2 6 10 14) 3 7 11 15) 0 5 10 15) 1 6 11 12) 2 7 8 13) H7.out).mono ?_
      rintro e w8 ⟨rfl, h1, g1⟩
      have H8 : Hid (StAt w8 w.heap.size (Ch.quarter (Ch.quarter (Ch.quarter (Ch.quarter (Ch.quarter (Ch.quarter (Ch.quarter (Ch.quarter r 0 4 8 12) 1 5 9 13) 2 6 10 14) 3 7 11 15) 0 5 10 15) 1 6 11 12) 2 7 8 13) 3 4 9 14)) := h1
      have G8 : Hid (World.grownBy w' w8 (some w.heap.size)) := grownBy_trans G7.out g1
      clear h1 g1 H7 G7
      clear H0 HO
      have HF : Hid (MixAtR w s R w8) := HRR.out.1 _ (HP.out _ H8.out G8.out)
      clear H8 G8 HP
      go_wp2_with (first | with_reducible (refine stop_load 45 ?_))
      have HL : Hid (R.length = 16) := HRR.out.2
      clear HS HRR
      refine Stop.go ?_
      with_reducible refine law_load_arr w.heap.size 0 .u32 R _ ?lx ?lc under41 rfl ?li ?lk
      case lx => exact rfl
      case lc => exact rangeAt_of_row HF.out.st
      case li => rw [HL.out]; exact info41
      go_wp2_with (first | with_reducible (refine stop_store 45 ?_))
      refine Stop.go ?_
      with_reducible refine law_store (w.heap.size + 1) 0 (arr .u32 R) ?sx ?sy ?st ?si (ints_one _ _) ?sk
      case sx => exact rfl
      case sy => exact rfl
      case st => rw [arr_size, HL.out]; exact HF.out.there
      case si => rw [arr_size, HL.out]; exact info41
      go_wp2_with fail
      simp only [Exit.jump]
      refine bodyPost_ret (v := .agg (arr .u32 R)) (results_row rfl _ _ (w.heap.size + 1) 0 (ints .u32 R) _ rfl ?_ under41 rfl ?_) rfl ⟨rfl, ?_⟩
      · exact World.rangeAt_setCells_same _ _ _ _ (by rw [arr_list, ints_length, HL.out]; exact HF.out.there)
      · rw [ints_length, HL.out]; exact info41
      · exact Below.setCells _ _ _ HF.out.below (by omega)
end Go.Proofs.Ytnceiccciaihoaa.C3
