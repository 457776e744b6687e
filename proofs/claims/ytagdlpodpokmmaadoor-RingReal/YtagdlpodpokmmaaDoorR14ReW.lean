/- RingReal: the walk. -/
import Derived.Test.YtagdlpodpokmmaaDoorR14ReV
import Derived.Test.YtagdlpodpokmmaaDoorS7Args
namespace Go.Proofs.YtagdlpodpokmmaaDoor.S7.Rz
open Go.RowKit
/-- A real suite, and the table of roots. -/
def Rs (w : World) (p : Nat) : Prop := (∃ sv, RlIs w p sv 0) ∧ S2.Tab w
section
variable {B : Nat} {w w' : World} {p : Nat} {kv : Value} {k : List Nat}
theorem Rs.below (h : Rs w p) (hb : Below w.heap.size w w') : Rs w' p := by
  obtain ⟨⟨sv, h1⟩, h2⟩ := h
  exact ⟨⟨sv, h1.below hb⟩, tab_below h2 hb (tab_lt h2)⟩
theorem fr_below (h : Fr [] [] B w w') : Below w.heap.size w w' := h.only.below (Nat.le_refl _) (by simp)
theorem keyOf_r (h : Rs w p) (hB : B ≤ w.heap.size) (hk : By B w kv k) (hkl : k.length ≤ 1000) (s : List Nat) (hs : ∀ y ∈ s, y < 256) (hsl : s.length ≤ 100) (n : Nat) (hn : n ≤ 1099511627776) :
    Calls Tryd.prog 37 #[.pointer (some ⟨p, 0, none⟩), kv, .string (strB s), .int .i64 (n : Int)] w fun e w' => ∃ u, e = .returned u ∧ w'.ownsRow w.heap.size 5 1 u 32 (ints .u8 (S2.Mk.code k (s ++ six n))) ∧ Rs w' p ∧ Fr [] [] B w w' := by
  refine keyOf_any (I := fun w' => Rs w' p) s n hB hn hs (fun w1 g a1 a2 h1 h2 h3 h4 h5 => ?_)
  obtain ⟨⟨sv, r1⟩, r2⟩ := h.below h5
  refine (Code_real2 k s (six n) kv a1 a2 g p 0 sv w1 r1 (hk.below h5).src h3 h4 h1 h2 r2 (by omega) (by omega) (by rw [six_length]; omega)).mono ?_
  rintro e w' ⟨v, rfl, k1, k2⟩
  exact ⟨v, rfl, k1, (h.below h5).below k2, Fr.of_below k2 (Nat.le_trans hB h5.size)⟩
theorem Wrap_r (h : Rs w p) (hB : B ≤ w.heap.size) (hk : By B w kv k) (hkl : k.length ≤ 1000) (who ep : Nat) (hw : 1 ≤ who ∧ who ≤ 16) (he : 1 ≤ ep ∧ ep ≤ 16) {tq : Option Addr} {tc : Nat} {t : List Nat} (ht : By B w (.slice tq 32 tc) t) (htl : t.length = 32) :
    Calls Tryd.prog 12 #[.pointer (some ⟨p, 0, none⟩), kv, .int .i64 (who : Int), .int .i64 (ep : Int), .slice tq 32 tc] w fun e w' => ∃ v, e = .returned (.tuple #[v, .int .i64 0]) ∧ w'.ownsRow 0 5 1 v 48 (ints .u8 (A5.Ae.box (S2.Mk.code k (memB ++ six who)) (non 0 ep) wraB t)) ∧ Fr [] [] B w w' := by
  refine Wrap_ok (r := S2.Mk.code k (memB ++ six who)) (I := fun w' => Rs w' p) (who : Int) ep tq tc t hB (by simp) (by omega) he ht _ (fun w1 h1 => ?_) (S2.Mk.code_small _ _) (fun w1 w2 h1 h2 => h1.below h2) (fun w1 u nv ov h1 h2 h3 h4 h5 h6 => ?_)
  · exact keyOf_r (h.below h1) (Nat.le_trans hB h1.size) (hk.below h1) hkl memB mem_ok.1 mem_ok.2 who (by omega)
  · obtain ⟨⟨sv, r1⟩, r2⟩ := h1
    refine (Seal_real _ (non 0 ep) wraB t u nv ov _ p 0 sv w1 r1 h2.src h3.src h4.src h5.src (S2.Mk.code_length _ _) (non_length 0 ep) (by decide) (by omega)).mono ?_
    rintro e w' ⟨v, rfl, k1, k2⟩
    rw [htl] at k1
    exact ⟨v, rfl, own_older k1 (Nat.zero_le _), Fr.of_below k2 h6⟩
theorem Unwrap_r {bv : Value} {t : List Nat} (h : Rs w p) (hB : B ≤ w.heap.size) (hk : By B w kv k) (hkl : k.length ≤ 1000) (who ep : Nat) (hw : 1 ≤ who ∧ who ≤ 16) (he : 1 ≤ ep ∧ ep ≤ 16) (htl : t.length = 32) (HSM : ∀ y ∈ t, y < 256) (hb : By B w bv (A5.Ae.box (S2.Mk.code k (memB ++ six who)) (non 0 ep) wraB t)) :
    Calls Tryd.prog 13 #[.pointer (some ⟨p, 0, none⟩), kv, .int .i64 (who : Int), .int .i64 (ep : Int), bv] w fun e w' => OpenSays w.heap.size (un32 (some t)) e w' ∧ Rs w' p ∧ Fr [] [] B w w' := by
  refine Unwrap_any (r := S2.Mk.code k (memB ++ six who)) (I := fun w' => Rs w' p) (who : Int) ep _ (some t) hB (by simp) (by omega) he hb (fun w1 h1 => ?_) (S2.Mk.code_small _ _) (fun w1 w2 h1 h2 => h1.below h2) (fun w1 u nv ov h1 h2 h3 h4 h5 h6 => ?_)
  · exact keyOf_r (h.below h1) (Nat.le_trans hB h1.size) (hk.below h1) hkl memB mem_ok.1 mem_ok.2 who (by omega)
  · obtain ⟨⟨sv, r1⟩, r2⟩ := h1
    refine (Open_real _ (non 0 ep) wraB _ u nv ov bv p 0 sv w1 r1 h2.src h3.src h4.src h5.src (S2.Mk.code_length _ _) (non_length 0 ep) (by decide) (by rw [A5.Ae.box_length]; omega) t (A5.Ae.opens_box _ _ _ _)).mono ?_
    rintro e w' ⟨v, rfl, k1, k2⟩
    refine ⟨⟨v, rfl, Src.own HSM k1, fun b hb => ?_⟩, k2⟩
    · obtain ⟨_, ⟨rfl, _⟩ | ⟨g, cap, cur, rfl, hg, _⟩⟩ := k1
      · cases hb
      · cases hb; exact hg
end
set_option maxHeartbeats 16000000 in
set_option maxRecDepth 20000 in
theorem real_main (w : World) (a0 : Option Addr) (l0 c0 : Nat) (s kl : List Nat) (n ep : Nat) (h0 : Src w (.slice a0 l0 c0) s) (k0 : l0 ≤ 100) (hw : 1 ≤ n ∧ n ≤ 16) (hep : 1 ≤ ep ∧ ep ≤ 16) (hkl : kl.length = 32) (hks : ∀ y ∈ kl, y < 256) (hT : S2.Tab w) :
    Calls Tryd.prog 3 #[.slice a0 l0 c0, .int .i64 (n : Int), .int .i64 (ep : Int), .agg (arr .u8 kl)] w fun e w' => e = .returned (.bool true) ∧ Below w.heap.size w w' := by
  obtain ⟨w0, HW0⟩ : ∃ w0, Hid (w.alloc (.cells (arr .u8 kl) 23) = w0) := ⟨_, rfl⟩
  have hba : Below w.heap.size w w0 := by rw [← HW0.out]; exact below_alloc' w _
  obtain ⟨B, hBe⟩ : ∃ B, B = w0.heap.size := ⟨_, rfl⟩
  have HBE : Hid (B = w0.heap.size ∧ Below w.heap.size w w0) := ⟨hBe, hba⟩
  obtain ⟨kb, hkb⟩ : ∃ kb, kb = w.heap.size := ⟨_, rfl⟩
  have HKB0 : Hid (kb = w.heap.size) := hkb
  have hk0 : Src w0 (.slice (some ⟨kb, 0, none⟩) 32 32) kl := by rw [← HW0.out, hkb]; exact arr_src 23 hks hkl
  have hsl : s.length = l0 := by
    obtain ⟨p', c', e, _⟩ := h0.slice
    simp only [Value.slice.injEq] at e
    exact e.2.1.symm
  have H0 : Hid (∀ w', Below B w0 w' → By B w' (.slice a0 l0 c0) s ∧ By B w' (.slice (some ⟨kb, 0, none⟩) 32 32) kl ∧ S2.Tab w') := fun w' hb => by
    rw [hBe] at hb
    exact ⟨(By.old (h0.below hba) (by rw [hBe]; exact Nat.le_refl _)).below hb, (By.old hk0 (by rw [hBe]; exact Nat.le_refl _)).below hb, tab_below (tab_below hT hba (tab_lt hT)) hb (Nat.lt_of_lt_of_le (tab_lt hT) hba.size)⟩
  have HSL : Hid (s.length ≤ 1000) := by show _ ≤ _; omega
  have HKL : Hid (kl.length = 32 ∧ ∀ y ∈ kl, y < 256) := ⟨hkl, hks⟩
  have HNN : Hid ((1 ≤ n ∧ n ≤ 16) ∧ (1 ≤ ep ∧ ep ≤ 16)) := ⟨hw, hep⟩
  have q0 : ¬ (100 : Int) < (l0 : Int) := by omega
  have q1 : ¬ (n : Int) < 1 := by omega
  have q2 : ¬ (16 : Int) < (n : Int) := by omega
  have q3 : ¬ (ep : Int) < 1 := by omega
  have q4 : ¬ (16 : Int) < (ep : Int) := by omega
  clear h0 hw hep hkl hks hT hk0 hsl hba hBe hkb k0
  go_enter Tryd.func3, Tryd.ntmps3
  go_wp2_with fail
  rw [HW0.out, ← HKB0.out]
  clear HW0
  refine (anchor_any w0).mono ?_
  rintro e w1 ⟨rfl, hb1⟩
  rw [← HBE.out.1] at hb1
  have G1 : Hid (Below B w0 w1 ∧ B ≤ w1.heap.size) := ⟨hb1, by have := hb1.size; rw [HBE.out.1]; exact this⟩
  clear hb1
  go_wp2_with fail
  refine (Real_nil w1).mono ?_
  rintro e w2 ⟨p, rfl, h1, h2, h3⟩
  have hb2 : Below B w0 w2 := G1.out.1.trans (h2.mono G1.out.2)
  have G2 : Hid (Rs w2 p ∧ Below B w0 w2 ∧ B ≤ w2.heap.size) := ⟨⟨h1, (H0.out w2 hb2).2.2⟩, hb2, Nat.le_trans G1.out.2 h2.size⟩
  clear h1 h2 h3 hb2 G1
  go_wp2_with fail
  refine (Member_yes w2 _ _ (n : Int) (by omega) _ (keyOf_r G2.out.1 G2.out.2.2 (H0.out w2 G2.out.2.1).1 HSL.out memB mem_ok.1 mem_ok.2 n (by omega))).mono ?_
  rintro e w3 ⟨av, rfl, h1, h2, h3⟩
  obtain ⟨aq, ac, rfl⟩ := own_slice h1
  have G3 : Hid (Rs w3 p ∧ Below B w0 w3 ∧ B ≤ w3.heap.size ∧ Src w3 (.slice aq 32 ac) (S2.Mk.code s (memB ++ six n))) := ⟨h2, G2.out.2.1.trans h3.kx.low, Nat.le_trans G2.out.2.2 h3.size, Src.own (S2.Mk.code_small _ _) h1⟩
  clear h1 h2 h3 G2
  go_wp2_with fail
  refine (Writer_yes w3 _ _ (n : Int) (by omega) _ (keyOf_r G3.out.1 G3.out.2.2.1 (H0.out w3 G3.out.2.1).1 HSL.out wriB wri_ok.1 wri_ok.2 n (by omega))).mono ?_
  rintro e w4 ⟨bv, rfl, h1, h2, h3⟩
  obtain ⟨bq, bc, rfl⟩ := own_slice h1
  have G4 : Hid (Rs w4 p ∧ Below B w0 w4 ∧ B ≤ w4.heap.size ∧ Src w4 (.slice aq 32 ac) (S2.Mk.code s (memB ++ six n)) ∧ Src w4 (.slice bq 32 bc) (S2.Mk.code s (wriB ++ six n))) := ⟨h2, G3.out.2.1.trans h3.kx.low, Nat.le_trans G3.out.2.2.1 h3.size, G3.out.2.2.2.below (fr_below h3), Src.own (S2.Mk.code_small _ _) h1⟩
  clear h1 h2 h3 G3
  go_wp2_with fail
  refine (Wrap_r G4.out.1 G4.out.2.2.1 (H0.out w4 G4.out.2.1).1 HSL.out n ep HNN.out.1 HNN.out.2 (H0.out w4 G4.out.2.1).2.1 HKL.out.1).mono ?_
  rintro e w5 ⟨cv, rfl, h1, h3⟩
  obtain ⟨cq, cc, rfl⟩ := own_slice h1
  have G5 : Hid (Rs w5 p ∧ Below B w0 w5 ∧ B ≤ w5.heap.size ∧ Src w5 (.slice aq 32 ac) (S2.Mk.code s (memB ++ six n)) ∧ Src w5 (.slice bq 32 bc) (S2.Mk.code s (wriB ++ six n)) ∧ By B w5 (.slice cq 48 cc) (A5.Ae.box (S2.Mk.code s (memB ++ six n)) (non 0 ep) wraB kl)) := ⟨G4.out.1.below (fr_below h3), G4.out.2.1.trans h3.kx.low, Nat.le_trans G4.out.2.2.1 h3.size, G4.out.2.2.2.1.below (fr_below h3), G4.out.2.2.2.2.below (fr_below h3), By.own (A5.Ae.box_lt HKL.out.2) h1⟩
  clear h1 h3 G4
  go_wp2_with fail
  refine (Unwrap_r G5.out.1 G5.out.2.2.1 (H0.out w5 G5.out.2.1).1 HSL.out n ep HNN.out.1 HNN.out.2 HKL.out.1 HKL.out.2 G5.out.2.2.2.2.2).mono ?_
  rintro e w6 ⟨h1, h2, h3⟩
  have hun : un32 (some kl) = some kl := by simp [un32, HKL.out.1]
  rw [hun] at h1
  obtain ⟨dv, rfl, hd, -⟩ : ∃ v, e = .returned (.tuple #[v, .int .i64 0]) ∧ Src w6 v kl ∧ ∀ b, v.ownBlock = some b → w5.heap.size ≤ b := h1
  obtain ⟨dq, dl, rfl, -⟩ := hd.slice
  rw [HKL.out.1] at hd ⊢
  have G6 : Hid (Below B w0 w6 ∧ B ≤ w6.heap.size ∧ Src w6 (.slice aq 32 ac) (S2.Mk.code s (memB ++ six n)) ∧ Src w6 (.slice bq 32 bc) (S2.Mk.code s (wriB ++ six n)) ∧ Src w6 (.slice dq 32 dl) kl) := ⟨G5.out.2.1.trans h3.kx.low, Nat.le_trans G5.out.2.2.1 h3.size, G5.out.2.2.2.1.below (fr_below h3), G5.out.2.2.2.2.1.below (fr_below h3), hd⟩
  clear hun h2 h3 hd G5
  go_wp2_with fail
  refine (C8.RefNum_any n w6 (by omega)).mono ?_
  rintro e w7 ⟨nv, rfl, h1, h2⟩
  obtain ⟨nq, nc, rfl⟩ := own_slice h1
  have HSR : Hid (∀ w', Fz w7.heap.size w7 w' → Src w' (.slice dq 32 dl) kl ∧ Src w' (.slice aq 32 ac) (S2.Mk.code s (memB ++ six n)) ∧ Src w' (.slice bq 32 bc) (S2.Mk.code s (wriB ++ six n)) ∧ Src w' (.slice a0 l0 c0) s ∧ Src w' (.slice nq 6 nc) (six n)) := fun w' hf => by
    have hl7 : Below B w0 w7 := G6.out.1.trans (h2.mono G6.out.2.1)
    exact ⟨src_fz (G6.out.2.2.2.2.below h2) hf, src_fz (G6.out.2.2.1.below h2) hf, src_fz (G6.out.2.2.2.1.below h2) hf, src_fz (H0.out w7 hl7).1.src hf, src_fz (Src.own (six_small n) h1) hf⟩
  have HKB : Hid (∀ w', Fz w7.heap.size w7 w' → Src w' (.slice (some ⟨kb, 0, none⟩) 32 32) kl) := fun w' hf => src_fz (H0.out w7 (G6.out.1.trans (h2.mono G6.out.2.1))).2.1.src hf
  have HBW : Hid (Below w.heap.size w w7) := HBE.out.2.trans ((G6.out.1.trans (h2.mono G6.out.2.1)).mono (by rw [HBE.out.1]; exact HBE.out.2.size))
  obtain ⟨B0, hB0⟩ : ∃ B0, B0 = w7.heap.size := ⟨_, rfl⟩
  rw [← hB0] at HSR HKB
  have HB0 : Hid (B0 ≤ w7.heap.size ∧ w7.heap.size ≤ B0) := by show _ ∧ _; omega
  clear h1 h2 G6 H0 HBE HNN hB0
  go_wp2_with fail
  have RB : ∀ k w w', Below w.heap.size w w' → (fun (_ : Nat) (_ : World) => True) k w → (fun (_ : Nat) (_ : World) => True) k w' := fun _ _ _ _ _ => trivial
  refine wp_region_st (re11 B0 n cq cc s kl) (fun u u' => Fz B0 u u') (SeqS [] (fun (_ : Nat) (_ : World) => True)) (by kernel_rfl) (fz_drew B0 _) (fz_trans B0) (re11_kept B0 n cq cc s kl) (by kernel_rfl) (SeqS.start (trivial)) ?_ ?_
  · intro i o a' w' f hi inv hS hfi hfw hpre
    have ho : Fz B0 w7 w' := inv.grow
    have hlt : i < 51 := (Array.getElem?_eq_some_iff.1 hi).1
    obtain rfl|rfl|rfl|rfl|rfl|rfl|rfl|rfl|rfl|rfl|rfl|rfl|rfl|rfl|rfl|rfl|rfl|rfl|rfl|rfl|rfl|rfl|rfl|rfl|rfl|rfl|rfl|rfl|rfl|rfl|rfl|rfl|rfl|rfl|rfl|rfl|rfl|rfl|rfl|rfl|rfl|rfl|rfl|rfl|rfl|rfl|rfl|rfl|rfl|rfl|rfl : i = 0 ∨ i = 1 ∨ i = 2 ∨ i = 3 ∨ i = 4 ∨ i = 5 ∨ i = 6 ∨ i = 7 ∨ i = 8 ∨ i = 9 ∨ i = 10 ∨ i = 11 ∨ i = 12 ∨ i = 13 ∨ i = 14 ∨ i = 15 ∨ i = 16 ∨ i = 17 ∨ i = 18 ∨ i = 19 ∨ i = 20 ∨ i = 21 ∨ i = 22 ∨ i = 23 ∨ i = 24 ∨ i = 25 ∨ i = 26 ∨ i = 27 ∨ i = 28 ∨ i = 29 ∨ i = 30 ∨ i = 31 ∨ i = 32 ∨ i = 33 ∨ i = 34 ∨ i = 35 ∨ i = 36 ∨ i = 37 ∨ i = 38 ∨ i = 39 ∨ i = 40 ∨ i = 41 ∨ i = 42 ∨ i = 43 ∨ i = 44 ∨ i = 45 ∨ i = 46 ∨ i = 47 ∨ i = 48 ∨ i = 49 ∨ i = 50 := by omega
    · obtain rfl := Option.some.inj hi
      exact sq_value _ rfl rfl rfl (Below.refl _ _) (by decide) hS RB (by show a'.tmps.getD 11 undef = _; rw [inv.old 11 (notDst_spec (by kernel_rfl))]; rfl)
    · obtain rfl := Option.some.inj hi
      have h0 : a'.tmps.getD 75 undef = _ := pre_of hpre 0 75 (by kernel_rfl) (by kernel_rfl)
      exact sq_value _ rfl rfl (eqlE_run 75 27 _ 0 rfl h0) (Below.refl _ _) (by decide) hS RB rfl
    · obtain rfl := Option.some.inj hi
      have h0 := pre_of hpre 1 76 (by kernel_rfl) (by kernel_rfl)
      exact sq_value _ rfl rfl (rfl) (Below.refl _ _) (by decide) hS RB h0
    · obtain rfl := Option.some.inj hi
      have hgu : a'.tmps.getD 77 undef = _ := pre_of hpre 2 77 (by kernel_rfl) (by kernel_rfl)
      exact sq_value _ rfl (wanted_of 2 77 true rfl (by kernel_rfl) hgu) rfl (Below.refl _ _) (by decide) hS RB (by show a'.tmps.getD 13 undef = _; rw [inv.old 13 (notDst_spec (by kernel_rfl))]; rfl)
    · obtain rfl := Option.some.inj hi
      have hgu : a'.tmps.getD 77 undef = _ := pre_of hpre 2 77 (by kernel_rfl) (by kernel_rfl)
      have h0 : a'.tmps.getD 78 undef = _ := pre_of hpre 3 78 (by kernel_rfl) (by kernel_rfl)
      exact sq_value _ rfl (wanted_of 2 77 true rfl (by kernel_rfl) hgu) (eqlE_run 78 27 _ 0 rfl h0) (Below.refl _ _) (by decide) hS RB rfl
    · obtain rfl := Option.some.inj hi
      have h0 : a'.tmps.getD 77 undef = _ := pre_of hpre 2 77 (by kernel_rfl) (by kernel_rfl)
      have h1 : a'.tmps.getD 79 undef = _ := pre_of hpre 4 79 (by kernel_rfl) (by kernel_rfl)
      exact sq_value _ rfl rfl (pick_run 77 true _ _ _ _ rfl h0 h1 rfl) (Below.refl _ _) (by decide) hS RB rfl
    · obtain rfl := Option.some.inj hi
      have h0 := pre_of hpre 5 80 (by kernel_rfl) (by kernel_rfl)
      exact sq_value _ rfl rfl (rfl) (Below.refl _ _) (by decide) hS RB h0
    · obtain rfl := Option.some.inj hi
      have hgu : a'.tmps.getD 81 undef = _ := pre_of hpre 6 81 (by kernel_rfl) (by kernel_rfl)
      exact sq_value _ rfl (wanted_of 6 81 true rfl (by kernel_rfl) hgu) rfl (Below.refl _ _) (by decide) hS RB (by show a'.tmps.getD 15 undef = _; rw [inv.old 15 (notDst_spec (by kernel_rfl))]; rfl)
    · obtain rfl := Option.some.inj hi
      have hgu : a'.tmps.getD 81 undef = _ := pre_of hpre 6 81 (by kernel_rfl) (by kernel_rfl)
      have h0 : a'.tmps.getD 82 undef = _ := pre_of hpre 7 82 (by kernel_rfl) (by kernel_rfl)
      exact sq_value _ rfl (wanted_of 6 81 true rfl (by kernel_rfl) hgu) (eqlE_run 82 27 _ 0 rfl h0) (Below.refl _ _) (by decide) hS RB rfl
    · obtain rfl := Option.some.inj hi
      have h0 : a'.tmps.getD 81 undef = _ := pre_of hpre 6 81 (by kernel_rfl) (by kernel_rfl)
      have h1 : a'.tmps.getD 83 undef = _ := pre_of hpre 8 83 (by kernel_rfl) (by kernel_rfl)
      exact sq_value _ rfl rfl (pick_run 81 true _ _ _ _ rfl h0 h1 rfl) (Below.refl _ _) (by decide) hS RB rfl
    · obtain rfl := Option.some.inj hi
      have h0 := pre_of hpre 9 84 (by kernel_rfl) (by kernel_rfl)
      exact sq_value _ rfl rfl (rfl) (Below.refl _ _) (by decide) hS RB h0
    · obtain rfl := Option.some.inj hi
      have hgu : a'.tmps.getD 85 undef = _ := pre_of hpre 10 85 (by kernel_rfl) (by kernel_rfl)
      exact sq_value _ rfl (wanted_of 10 85 true rfl (by kernel_rfl) hgu) rfl (Below.refl _ _) (by decide) hS RB (by show a'.tmps.getD 17 undef = _; rw [inv.old 17 (notDst_spec (by kernel_rfl))]; rfl)
    · obtain rfl := Option.some.inj hi
      have hgu : a'.tmps.getD 85 undef = _ := pre_of hpre 10 85 (by kernel_rfl) (by kernel_rfl)
      have h0 : a'.tmps.getD 86 undef = _ := pre_of hpre 11 86 (by kernel_rfl) (by kernel_rfl)
      exact sq_value _ rfl (wanted_of 10 85 true rfl (by kernel_rfl) hgu) (eqlE_run 86 27 _ 0 rfl h0) (Below.refl _ _) (by decide) hS RB rfl
    · obtain rfl := Option.some.inj hi
      have h0 : a'.tmps.getD 85 undef = _ := pre_of hpre 10 85 (by kernel_rfl) (by kernel_rfl)
      have h1 : a'.tmps.getD 87 undef = _ := pre_of hpre 12 87 (by kernel_rfl) (by kernel_rfl)
      exact sq_value _ rfl rfl (pick_run 85 true _ _ _ _ rfl h0 h1 rfl) (Below.refl _ _) (by decide) hS RB rfl
    · obtain rfl := Option.some.inj hi
      have h0 := pre_of hpre 13 88 (by kernel_rfl) (by kernel_rfl)
      exact sq_value _ rfl rfl (rfl) (Below.refl _ _) (by decide) hS RB h0
    · obtain rfl := Option.some.inj hi
      have hgu : a'.tmps.getD 89 undef = _ := pre_of hpre 14 89 (by kernel_rfl) (by kernel_rfl)
      exact sq_value _ rfl (wanted_of 14 89 true rfl (by kernel_rfl) hgu) rfl (Below.refl _ _) (by decide) hS RB (by show a'.tmps.getD 14 undef = _; rw [inv.old 14 (notDst_spec (by kernel_rfl))]; rfl)
    · obtain rfl := Option.some.inj hi
      have hgu : a'.tmps.getD 89 undef = _ := pre_of hpre 14 89 (by kernel_rfl) (by kernel_rfl)
      have h0 : a'.tmps.getD 90 undef = _ := pre_of hpre 15 90 (by kernel_rfl) (by kernel_rfl)
      exact sq_value _ rfl (wanted_of 14 89 true rfl (by kernel_rfl) hgu) (lenV_run 90 _ _ _ rfl h0) (Below.refl _ _) (by decide) hS RB rfl
    · obtain rfl := Option.some.inj hi
      have hgu : a'.tmps.getD 89 undef = _ := pre_of hpre 14 89 (by kernel_rfl) (by kernel_rfl)
      have h0 : a'.tmps.getD 91 undef = _ := pre_of hpre 16 91 (by kernel_rfl) (by kernel_rfl)
      exact sq_value _ rfl (wanted_of 14 89 true rfl (by kernel_rfl) hgu) (eqlE_run 91 3 _ 48 rfl h0) (Below.refl _ _) (by decide) hS RB rfl
    · obtain rfl := Option.some.inj hi
      have h0 : a'.tmps.getD 89 undef = _ := pre_of hpre 14 89 (by kernel_rfl) (by kernel_rfl)
      have h1 : a'.tmps.getD 92 undef = _ := pre_of hpre 17 92 (by kernel_rfl) (by kernel_rfl)
      exact sq_value _ rfl rfl (pick_run 89 true _ _ _ _ rfl h0 h1 rfl) (Below.refl _ _) (by decide) hS RB rfl
    · obtain rfl := Option.some.inj hi
      have h0 := pre_of hpre 18 93 (by kernel_rfl) (by kernel_rfl)
      exact sq_value _ rfl rfl (rfl) (Below.refl _ _) (by decide) hS RB h0
    · obtain rfl := Option.some.inj hi
      have hgu : a'.tmps.getD 94 undef = _ := pre_of hpre 19 94 (by kernel_rfl) (by kernel_rfl)
      exact sq_value _ rfl (wanted_of 19 94 true rfl (by kernel_rfl) hgu) rfl (Below.refl _ _) (by decide) hS RB (by show SrcV _ _ (a'.tmps.getD 16 undef) _; rw [inv.old 16 (notDst_spec (by kernel_rfl))]; exact ⟨(HSR.out w' ho).1, rfl⟩)
    · obtain rfl := Option.some.inj hi
      have hgu : a'.tmps.getD 94 undef = _ := pre_of hpre 19 94 (by kernel_rfl) (by kernel_rfl)
      have h0 := pre_of hpre 20 95 (by kernel_rfl) (by kernel_rfl)
      exact sq_value _ rfl (wanted_of 19 94 true rfl (by kernel_rfl) hgu) (conv_run 95 rfl (h0.1)) (Below.refl _ _) (by decide) hS RB rfl
    · obtain rfl := Option.some.inj hi
      have hgu : a'.tmps.getD 94 undef = _ := pre_of hpre 19 94 (by kernel_rfl) (by kernel_rfl)
      have h0 : a'.tmps.getD 7 undef = (.pointer (some ⟨kb, 0, none⟩)) := by rw [inv.old 7 (notDst_spec (by kernel_rfl))]; rfl
      exact sq_value _ rfl (wanted_of 19 94 true rfl (by kernel_rfl) hgu) (cut_run 7 kb rfl h0) (Below.refl _ _) (by decide) hS RB ⟨HKB.out w' ho, rfl⟩
    · obtain rfl := Option.some.inj hi
      have hgu : a'.tmps.getD 94 undef = _ := pre_of hpre 19 94 (by kernel_rfl) (by kernel_rfl)
      have h0 := pre_of hpre 22 97 (by kernel_rfl) (by kernel_rfl)
      exact sq_value _ rfl (wanted_of 19 94 true rfl (by kernel_rfl) hgu) (conv_run 97 rfl (h0.1)) (Below.refl _ _) (by decide) hS RB rfl
    · obtain rfl := Option.some.inj hi
      have hgu : a'.tmps.getD 94 undef = _ := pre_of hpre 19 94 (by kernel_rfl) (by kernel_rfl)
      have h0 : a'.tmps.getD 96 undef = _ := pre_of hpre 21 96 (by kernel_rfl) (by kernel_rfl)
      have h1 : a'.tmps.getD 98 undef = _ := pre_of hpre 23 98 (by kernel_rfl) (by kernel_rfl)
      exact sq_value _ rfl (wanted_of 19 94 true rfl (by kernel_rfl) hgu) (eqlS_run 96 98 _ _ rfl h0 h1) (Below.refl _ _) (by decide) hS RB (by show Value.bool _ = _; simp)
    · obtain rfl := Option.some.inj hi
      have h0 : a'.tmps.getD 94 undef = _ := pre_of hpre 19 94 (by kernel_rfl) (by kernel_rfl)
      have h1 : a'.tmps.getD 99 undef = _ := pre_of hpre 24 99 (by kernel_rfl) (by kernel_rfl)
      exact sq_value _ rfl rfl (pick_run 94 true _ _ _ _ rfl h0 h1 rfl) (Below.refl _ _) (by decide) hS RB rfl
    · obtain rfl := Option.some.inj hi
      have h0 := pre_of hpre 25 100 (by kernel_rfl) (by kernel_rfl)
      exact sq_value _ rfl rfl (rfl) (Below.refl _ _) (by decide) hS RB h0
    · obtain rfl := Option.some.inj hi
      have hgu : a'.tmps.getD 101 undef = _ := pre_of hpre 26 101 (by kernel_rfl) (by kernel_rfl)
      exact sq_value _ rfl (wanted_of 26 101 true rfl (by kernel_rfl) hgu) rfl (Below.refl _ _) (by decide) hS RB (by show SrcV _ _ (a'.tmps.getD 10 undef) _; rw [inv.old 10 (notDst_spec (by kernel_rfl))]; exact ⟨(HSR.out w' ho).2.1, rfl⟩)
    · obtain rfl := Option.some.inj hi
      have hgu : a'.tmps.getD 101 undef = _ := pre_of hpre 26 101 (by kernel_rfl) (by kernel_rfl)
      have h0 := pre_of hpre 27 102 (by kernel_rfl) (by kernel_rfl)
      exact sq_value _ rfl (wanted_of 26 101 true rfl (by kernel_rfl) hgu) (conv_run 102 rfl (h0.1)) (Below.refl _ _) (by decide) hS RB rfl
    · obtain rfl := Option.some.inj hi
      have hgu : a'.tmps.getD 101 undef = _ := pre_of hpre 26 101 (by kernel_rfl) (by kernel_rfl)
      exact sq_value _ rfl (wanted_of 26 101 true rfl (by kernel_rfl) hgu) rfl (Below.refl _ _) (by decide) hS RB (by show SrcV _ _ (a'.tmps.getD 0 undef) _; rw [inv.old 0 (notDst_spec (by kernel_rfl))]; exact ⟨(HSR.out w' ho).2.2.2.1, rfl⟩)
    · obtain rfl := Option.some.inj hi
      have hgu : a'.tmps.getD 101 undef = _ := pre_of hpre 26 101 (by kernel_rfl) (by kernel_rfl)
      exact sq_value _ rfl (wanted_of 26 101 true rfl (by kernel_rfl) hgu) (lit_run 109 101 109 98 101 114 rfl) (below_alloc' _ _) (by decide) hS RB ⟨w'.heap.size, (0, 0), rfl, Nat.le_trans HB0.out.1 ho.size, heap_alloc_new w' _⟩
    · obtain rfl := Option.some.inj hi
      have hgu : a'.tmps.getD 101 undef = _ := pre_of hpre 26 101 (by kernel_rfl) (by kernel_rfl)
      have h0 := pre_of hpre 30 105 (by kernel_rfl) (by kernel_rfl)
      obtain ⟨g, fr, e1, e2, e3⟩ := h0
      obtain ⟨fr', e4⟩ := heap_freeze_same w' g 6 1 _ 5 fr e3
      exact sq_fz _ rfl (wanted_of 26 101 true rfl (by kernel_rfl) hgu) (mark_run (l := memB) rfl 105 g fr rfl e1 e3) (fz_freeze e2 e3) (by decide) hS ⟨g, fr', rfl, e2, e4⟩
    · obtain rfl := Option.some.inj hi
      have hgu : a'.tmps.getD 101 undef = _ := pre_of hpre 26 101 (by kernel_rfl) (by kernel_rfl)
      exact sq_value _ rfl (wanted_of 26 101 true rfl (by kernel_rfl) hgu) rfl (Below.refl _ _) (by decide) hS RB (by show SrcV _ _ (a'.tmps.getD 18 undef) _; rw [inv.old 18 (notDst_spec (by kernel_rfl))]; exact ⟨(HSR.out w' ho).2.2.2.2, rfl⟩)
    · obtain rfl := Option.some.inj hi
      have hgu : a'.tmps.getD 101 undef = _ := pre_of hpre 26 101 (by kernel_rfl) (by kernel_rfl)
      have h0 := pre_of hpre 31 106 (by kernel_rfl) (by kernel_rfl)
      have h1 := pre_of hpre 32 107 (by kernel_rfl) (by kernel_rfl)
      obtain ⟨g, fr, e1, e2, e3⟩ := h0
      exact sq_app (l := memB) (m := six n) rfl (wanted_of 26 101 true rfl (by kernel_rfl) hgu) rfl 106 107 g fr (by decide) (by rw [six_length]; decide) (by rw [six_length]; decide) rfl e1 e3 h1.1 (by decide) hS RB (fun v w2 r3 => ⟨r3, rfl⟩)
    · obtain rfl := Option.some.inj hi
      have hgu : a'.tmps.getD 101 undef = _ := pre_of hpre 26 101 (by kernel_rfl) (by kernel_rfl)
      have h0 := pre_of hpre 29 104 (by kernel_rfl) (by kernel_rfl)
      have h1 := pre_of hpre 33 108 (by kernel_rfl) (by kernel_rfl)
      refine sq_quiet 15 #[a'.tmps.getD 104 undef, a'.tmps.getD 108 undef] rfl (wanted_of 26 101 true rfl (by kernel_rfl) hgu) (by kernel_rfl) (by decide) hS ?_
      exact (rcode_src h0.1 h1.1 HSL.out (by rw [List.length_append, six_length]; decide)).mono (by rintro e u ⟨v, rfl, hb, ho1⟩; exact ⟨v, rfl, Fz.of_below hb, (fun _ _ => trivial), Src.own (S2.Mk.code_small _ _) ho1, rfl⟩)
    · obtain rfl := Option.some.inj hi
      have hgu : a'.tmps.getD 101 undef = _ := pre_of hpre 26 101 (by kernel_rfl) (by kernel_rfl)
      have h0 := pre_of hpre 34 109 (by kernel_rfl) (by kernel_rfl)
      exact sq_value _ rfl (wanted_of 26 101 true rfl (by kernel_rfl) hgu) (conv_run 109 rfl (h0.1)) (Below.refl _ _) (by decide) hS RB rfl
    · obtain rfl := Option.some.inj hi
      have hgu : a'.tmps.getD 101 undef = _ := pre_of hpre 26 101 (by kernel_rfl) (by kernel_rfl)
      have h0 : a'.tmps.getD 103 undef = _ := pre_of hpre 28 103 (by kernel_rfl) (by kernel_rfl)
      have h1 : a'.tmps.getD 110 undef = _ := pre_of hpre 35 110 (by kernel_rfl) (by kernel_rfl)
      exact sq_value _ rfl (wanted_of 26 101 true rfl (by kernel_rfl) hgu) (eqlS_run 103 110 _ _ rfl h0 h1) (Below.refl _ _) (by decide) hS RB (by show Value.bool _ = _; simp)
    · obtain rfl := Option.some.inj hi
      have h0 : a'.tmps.getD 101 undef = _ := pre_of hpre 26 101 (by kernel_rfl) (by kernel_rfl)
      have h1 : a'.tmps.getD 111 undef = _ := pre_of hpre 36 111 (by kernel_rfl) (by kernel_rfl)
      exact sq_value _ rfl rfl (pick_run 101 true _ _ _ _ rfl h0 h1 rfl) (Below.refl _ _) (by decide) hS RB rfl
    · obtain rfl := Option.some.inj hi
      have h0 := pre_of hpre 37 112 (by kernel_rfl) (by kernel_rfl)
      exact sq_value _ rfl rfl (rfl) (Below.refl _ _) (by decide) hS RB h0
    · obtain rfl := Option.some.inj hi
      have hgu : a'.tmps.getD 113 undef = _ := pre_of hpre 38 113 (by kernel_rfl) (by kernel_rfl)
      exact sq_value _ rfl (wanted_of 38 113 true rfl (by kernel_rfl) hgu) rfl (Below.refl _ _) (by decide) hS RB (by show SrcV _ _ (a'.tmps.getD 12 undef) _; rw [inv.old 12 (notDst_spec (by kernel_rfl))]; exact ⟨(HSR.out w' ho).2.2.1, rfl⟩)
    · obtain rfl := Option.some.inj hi
      have hgu : a'.tmps.getD 113 undef = _ := pre_of hpre 38 113 (by kernel_rfl) (by kernel_rfl)
      have h0 := pre_of hpre 39 114 (by kernel_rfl) (by kernel_rfl)
      exact sq_value _ rfl (wanted_of 38 113 true rfl (by kernel_rfl) hgu) (conv_run 114 rfl (h0.1)) (Below.refl _ _) (by decide) hS RB rfl
    · obtain rfl := Option.some.inj hi
      have hgu : a'.tmps.getD 113 undef = _ := pre_of hpre 38 113 (by kernel_rfl) (by kernel_rfl)
      exact sq_value _ rfl (wanted_of 38 113 true rfl (by kernel_rfl) hgu) rfl (Below.refl _ _) (by decide) hS RB (by show SrcV _ _ (a'.tmps.getD 0 undef) _; rw [inv.old 0 (notDst_spec (by kernel_rfl))]; exact ⟨(HSR.out w' ho).2.2.2.1, rfl⟩)
    · obtain rfl := Option.some.inj hi
      have hgu : a'.tmps.getD 113 undef = _ := pre_of hpre 38 113 (by kernel_rfl) (by kernel_rfl)
      exact sq_value _ rfl (wanted_of 38 113 true rfl (by kernel_rfl) hgu) (lit_run 119 114 105 116 101 114 rfl) (below_alloc' _ _) (by decide) hS RB ⟨w'.heap.size, (0, 0), rfl, Nat.le_trans HB0.out.1 ho.size, heap_alloc_new w' _⟩
    · obtain rfl := Option.some.inj hi
      have hgu : a'.tmps.getD 113 undef = _ := pre_of hpre 38 113 (by kernel_rfl) (by kernel_rfl)
      have h0 := pre_of hpre 42 117 (by kernel_rfl) (by kernel_rfl)
      obtain ⟨g, fr, e1, e2, e3⟩ := h0
      obtain ⟨fr', e4⟩ := heap_freeze_same w' g 6 1 _ 5 fr e3
      exact sq_fz _ rfl (wanted_of 38 113 true rfl (by kernel_rfl) hgu) (mark_run (l := wriB) rfl 117 g fr rfl e1 e3) (fz_freeze e2 e3) (by decide) hS ⟨g, fr', rfl, e2, e4⟩
    · obtain rfl := Option.some.inj hi
      have hgu : a'.tmps.getD 113 undef = _ := pre_of hpre 38 113 (by kernel_rfl) (by kernel_rfl)
      exact sq_value _ rfl (wanted_of 38 113 true rfl (by kernel_rfl) hgu) rfl (Below.refl _ _) (by decide) hS RB (by show SrcV _ _ (a'.tmps.getD 18 undef) _; rw [inv.old 18 (notDst_spec (by kernel_rfl))]; exact ⟨(HSR.out w' ho).2.2.2.2, rfl⟩)
    · obtain rfl := Option.some.inj hi
      have hgu : a'.tmps.getD 113 undef = _ := pre_of hpre 38 113 (by kernel_rfl) (by kernel_rfl)
      have h0 := pre_of hpre 43 118 (by kernel_rfl) (by kernel_rfl)
      have h1 := pre_of hpre 44 119 (by kernel_rfl) (by kernel_rfl)
      obtain ⟨g, fr, e1, e2, e3⟩ := h0
      exact sq_app (l := wriB) (m := six n) rfl (wanted_of 38 113 true rfl (by kernel_rfl) hgu) rfl 118 119 g fr (by decide) (by rw [six_length]; decide) (by rw [six_length]; decide) rfl e1 e3 h1.1 (by decide) hS RB (fun v w2 r3 => ⟨r3, rfl⟩)
    · obtain rfl := Option.some.inj hi
      have hgu : a'.tmps.getD 113 undef = _ := pre_of hpre 38 113 (by kernel_rfl) (by kernel_rfl)
      have h0 := pre_of hpre 41 116 (by kernel_rfl) (by kernel_rfl)
      have h1 := pre_of hpre 45 120 (by kernel_rfl) (by kernel_rfl)
      refine sq_quiet 15 #[a'.tmps.getD 116 undef, a'.tmps.getD 120 undef] rfl (wanted_of 38 113 true rfl (by kernel_rfl) hgu) (by kernel_rfl) (by decide) hS ?_
      exact (rcode_src h0.1 h1.1 HSL.out (by rw [List.length_append, six_length]; decide)).mono (by rintro e u ⟨v, rfl, hb, ho1⟩; exact ⟨v, rfl, Fz.of_below hb, (fun _ _ => trivial), Src.own (S2.Mk.code_small _ _) ho1, rfl⟩)
    · obtain rfl := Option.some.inj hi
      have hgu : a'.tmps.getD 113 undef = _ := pre_of hpre 38 113 (by kernel_rfl) (by kernel_rfl)
      have h0 := pre_of hpre 46 121 (by kernel_rfl) (by kernel_rfl)
      exact sq_value _ rfl (wanted_of 38 113 true rfl (by kernel_rfl) hgu) (conv_run 121 rfl (h0.1)) (Below.refl _ _) (by decide) hS RB rfl
    · obtain rfl := Option.some.inj hi
      have hgu : a'.tmps.getD 113 undef = _ := pre_of hpre 38 113 (by kernel_rfl) (by kernel_rfl)
      have h0 : a'.tmps.getD 115 undef = _ := pre_of hpre 40 115 (by kernel_rfl) (by kernel_rfl)
      have h1 : a'.tmps.getD 122 undef = _ := pre_of hpre 47 122 (by kernel_rfl) (by kernel_rfl)
      exact sq_value _ rfl (wanted_of 38 113 true rfl (by kernel_rfl) hgu) (eqlS_run 115 122 _ _ rfl h0 h1) (Below.refl _ _) (by decide) hS RB (by show Value.bool _ = _; simp)
    · obtain rfl := Option.some.inj hi
      have h0 : a'.tmps.getD 113 undef = _ := pre_of hpre 38 113 (by kernel_rfl) (by kernel_rfl)
      have h1 : a'.tmps.getD 123 undef = _ := pre_of hpre 48 123 (by kernel_rfl) (by kernel_rfl)
      exact sq_value _ rfl rfl (pick_run 113 true _ _ _ _ rfl h0 h1 rfl) (Below.refl _ _) (by decide) hS RB rfl
    · obtain rfl := Option.some.inj hi
      have h0 := pre_of hpre 49 124 (by kernel_rfl) (by kernel_rfl)
      exact sq_value _ rfl rfl (rfl) (Below.refl _ _) (by decide) hS RB h0
  · intro a' w9 f inv hS hall hd
    have hk50 := hd 50 8 (by kernel_rfl)
    have ho : Fz B0 w7 w9 := inv.grow
    have hdf : a'.defers = [] := inv.defers
    have hsz : a'.tmps.size = 125 := inv.size
    have e := frame3_11 hsz (fun t ht => inv.old t (dstsIn_spec (ts := [8, 75, 76, 77, 78, 79, 80, 81, 82, 83, 84, 85, 86, 87, 88, 89, 90, 91, 92, 93, 94, 95, 96, 97, 98, 99, 100, 101, 102, 103, 104, 105, 106, 107, 108, 109, 110, 111, 112, 113, 114, 115, 116, 117, 118, 119, 120, 121, 122, 123, 124]) (by kernel_rfl) t ht))
    have hR := hS.done (fun c hc => hall c (show c < 51 by simp at hc <;> omega))
    clear inv hd hsz hall hS
    obtain ⟨tmps, defers⟩ := a'
    obtain rfl : defers = [] := hdf
    replace e : tmps = _ := e
    replace hk50 : tmps.getD 8 undef = (.bool true) := hk50
    generalize tmps.getD 8 undef = x8 at *
    generalize tmps.getD 75 undef = x75 at *
    generalize tmps.getD 76 undef = x76 at *
    generalize tmps.getD 77 undef = x77 at *
    generalize tmps.getD 78 undef = x78 at *
    generalize tmps.getD 79 undef = x79 at *
    generalize tmps.getD 80 undef = x80 at *
    generalize tmps.getD 81 undef = x81 at *
    generalize tmps.getD 82 undef = x82 at *
    generalize tmps.getD 83 undef = x83 at *
    generalize tmps.getD 84 undef = x84 at *
    generalize tmps.getD 85 undef = x85 at *
    generalize tmps.getD 86 undef = x86 at *
    generalize tmps.getD 87 undef = x87 at *
    generalize tmps.getD 88 undef = x88 at *
    generalize tmps.getD 89 undef = x89 at *
    generalize tmps.getD 90 undef = x90 at *
    generalize tmps.getD 91 undef = x91 at *
    generalize tmps.getD 92 undef = x92 at *
    generalize tmps.getD 93 undef = x93 at *
    generalize tmps.getD 94 undef = x94 at *
    generalize tmps.getD 95 undef = x95 at *
    generalize tmps.getD 96 undef = x96 at *
    generalize tmps.getD 97 undef = x97 at *
    generalize tmps.getD 98 undef = x98 at *
    generalize tmps.getD 99 undef = x99 at *
    generalize tmps.getD 100 undef = x100 at *
    generalize tmps.getD 101 undef = x101 at *
    generalize tmps.getD 102 undef = x102 at *
    generalize tmps.getD 103 undef = x103 at *
    generalize tmps.getD 104 undef = x104 at *
    generalize tmps.getD 105 undef = x105 at *
    generalize tmps.getD 106 undef = x106 at *
    generalize tmps.getD 107 undef = x107 at *
    generalize tmps.getD 108 undef = x108 at *
    generalize tmps.getD 109 undef = x109 at *
    generalize tmps.getD 110 undef = x110 at *
    generalize tmps.getD 111 undef = x111 at *
    generalize tmps.getD 112 undef = x112 at *
    generalize tmps.getD 113 undef = x113 at *
    generalize tmps.getD 114 undef = x114 at *
    generalize tmps.getD 115 undef = x115 at *
    generalize tmps.getD 116 undef = x116 at *
    generalize tmps.getD 117 undef = x117 at *
    generalize tmps.getD 118 undef = x118 at *
    generalize tmps.getD 119 undef = x119 at *
    generalize tmps.getD 120 undef = x120 at *
    generalize tmps.getD 121 undef = x121 at *
    generalize tmps.getD 122 undef = x122 at *
    generalize tmps.getD 123 undef = x123 at *
    generalize tmps.getD 124 undef = x124 at *
    simp only [Array.getD_eq_getD_getElem?, List.getElem?_toArray, List.getElem?_cons_succ, List.getElem?_cons_zero, Option.getD_some] at e
    subst e
    subst hk50
    have hb9 : Below w7.heap.size w7 w9 := ho.below HB0.out.2
    have HZ : Hid (Below w.heap.size w w9) := HBW.out.trans (hb9.mono HBW.out.size)
    clear ho hR hb9 HSR HKB HB0 HBW HSL HKL
    go_wp2_with fail
    go_ret
    exact ⟨rfl, HZ.out⟩
set_option maxHeartbeats 4000000 in
set_option maxRecDepth 20000 in
theorem real_out (w : World) (a0 : Option Addr) (l0 c0 : Nat) (n ep : Int) (kl : List Nat) (h : ¬ (l0 ≤ 100 ∧ (1 ≤ n ∧ n ≤ 16) ∧ (1 ≤ ep ∧ ep ≤ 16))) :
    Calls Tryd.prog 3 #[.slice a0 l0 c0, .int .i64 n, .int .i64 ep, .agg (arr .u8 kl)] w fun e w' => e = .returned (.bool true) ∧ Below w.heap.size w w' := by
  have HBA : Hid (Below w.heap.size w (w.alloc (.cells (arr .u8 kl) 23))) := below_alloc' w _
  go_enter Tryd.func3, Tryd.ntmps3
  go_wp2_with fail
  refine (anchor_any _).mono ?_
  rintro e w1 ⟨rfl, hb1⟩
  have HB1 : Hid (Below w.heap.size w w1) := HBA.out.trans (hb1.mono HBA.out.size)
  clear hb1 HBA
  by_cases q0 : (100 : Int) < (l0 : Int)
  · clear h
    go_wp2_with fail
    go_ret
    exact ⟨rfl, HB1.out⟩
  by_cases q2 : n < 1
  · clear h
    go_wp2_with fail
    go_ret
    exact ⟨rfl, HB1.out⟩
  by_cases q3 : 16 < n
  · clear h
    go_wp2_with fail
    go_ret
    exact ⟨rfl, HB1.out⟩
  by_cases q4 : ep < 1
  · clear h
    go_wp2_with fail
    go_ret
    exact ⟨rfl, HB1.out⟩
  by_cases q5 : 16 < ep
  · clear h
    go_wp2_with fail
    go_ret
    exact ⟨rfl, HB1.out⟩
  exact absurd ⟨by omega, by omega, by omega⟩ h
theorem real_law (w : World) (a0 : Option Addr) (l0 c0 : Nat) (n ep : Int) (kl : List Nat) (hkl : kl.length = 32) (hks : ∀ y ∈ kl, y < 256) (h0 : RowIs w a0 l0 c0) (hT : S2.Tab w) :
    Calls Tryd.prog 3 #[.slice a0 l0 c0, .int .i64 n, .int .i64 ep, .agg (arr .u8 kl)] w fun e w' => e = .returned (.bool true) ∧ Below w.heap.size w w' := by
  obtain ⟨s, _, hs⟩ := Src.of h0
  by_cases h : l0 ≤ 100 ∧ (1 ≤ n ∧ n ≤ 16) ∧ (1 ≤ ep ∧ ep ≤ 16)
  · have := real_main w a0 l0 c0 s kl n.toNat ep.toNat hs h.1 (by omega) (by omega) hkl hks hT
    rw [Int.toNat_of_nonneg (by omega), Int.toNat_of_nonneg (by omega)] at this
    exact this
  · exact real_out w a0 l0 c0 n ep kl h
end Go.Proofs.YtagdlpodpokmmaaDoor.S7.Rz
