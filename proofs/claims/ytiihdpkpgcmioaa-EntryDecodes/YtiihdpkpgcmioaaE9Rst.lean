/- The document's rest of an entry: what stands while it reads, and its kinds but for the fifth. -/
import Derived.Test.YtiihdpkpgcmioaaE9Rf
import Derived.Test.YtiihdpkpgcmioaaE9Made
namespace Go.Proofs.Ytiihdpkpgcmioaa.C8
open Go.RowKit
theorem Src.at {w w2 : World} {v : Value} {t : List Nat} (h : Src w v t) (hk : ∀ b, v.ownBlock = some b → t ≠ [] → w2.heap[b]? = w.heap[b]?) : Src w2 v t := by
  by_cases h0 : t = []
  · subst h0
    exact h.empty w2
  · obtain ⟨hs, ⟨rfl, rfl⟩ | ⟨_, _, rfl, rfl⟩ | ⟨b, o, c, rfl, hc, hr⟩⟩ := h
    · exact absurd rfl h0
    · exact absurd rfl h0
    · exact ⟨hs, .inr (.inr ⟨b, o, c, rfl, hc, range_kept hr (hk b rfl h0)⟩)⟩
theorem Src.lt {w : World} {v : Value} {t : List Nat} (h : Src w v t) (h0 : t ≠ []) {b : Nat} (hb : v.ownBlock = some b) : b < w.heap.size := by
  obtain ⟨hs, ⟨rfl, rfl⟩ | ⟨_, _, rfl, rfl⟩ | ⟨g, o, c, rfl, hc, hr⟩⟩ := h
  · exact absurd rfl h0
  · exact absurd rfl h0
  · cases hb
    exact range_lt hr (ints_ne h0)
end Go.Proofs.Ytiihdpkpgcmioaa.C8
namespace Go.Proofs.Ytiihdpkpgcmioaa.E9
open Go.RowKit C8
/-- Below A and from B on two memories agree. -/
def AgF (A B : Nat) (w w2 : World) : Prop := (∀ k, k < A ∨ B ≤ k → k < w.heap.size → w2.heap[k]? = w.heap[k]?) ∧ w.heap.size ≤ w2.heap.size
/-- An entry whose memory lies below A and from B on. -/
def EnF (A B : Nat) (w : World) (v : Value) (e : En) : Prop := ∀ w2, AgF A B w w2 → EnIs w2 v e
theorem src_far {w0 w w2 : World} {v : Value} {t : List Nat} {B : Nat} (h : Src w0 v t) (hb : Below w0.heap.size w0 w) (ha : AgF w0.heap.size B w w2) : Src w2 v t :=
  h.at (fun b hv h0 => have hl := h.lt h0 hv; (ha.1 b (.inl hl) (Nat.lt_of_lt_of_le hl hb.size)).trans (hb.block b hl))
/-- The places. -/
structure Pl (w0 w : World) (pe pr : Nat) (sv : Value) (l : List Nat) : Prop where
  le : w0.heap.size ≤ pe
  lr : w0.heap.size ≤ pr
  ne : pe ≠ pr
  src : Src w0 sv l
  len : l.length ≤ 100000
  bel : Below w0.heap.size w0 w
/-- What stands while it reads: the reader, the entry, and what was turned. -/
structure Rg (w0 w W : World) (pe pr : Nat) (sv : Value) (l : List Nat) (s : Sta) (C : Array Value) : Prop where
  pl : Pl w0 w pe pr sv l
  rf : ∃ a, RfAt W pr sv a s.2 ∧ a ≤ l.length ∧ s.1 = if s.2 = true then [] else l.drop a
  ev : W.heap[pe]? = some (.cells C 30 (0, 0))
  on : Only [pe, pr] w W
section
variable {w0 w W W' : World} {pe pr : Nat} {sv : Value} {l : List Nat} {s s' : Sta} {C C' : Array Value}
theorem Rg.below (h : Rg w0 w W pe pr sv l s C) : Below w0.heap.size w0 W :=
  h.pl.bel.trans (h.on.below h.pl.bel.size (by have := h.pl.le; have := h.pl.lr; intro x hx; simp at hx; omega))
theorem Rg.src (h : Rg w0 w W pe pr sv l s C) : Src W sv l := h.pl.src.at (fun b hb h0 => h.below.block b (h.pl.src.lt h0 hb))
theorem Rg.off (h : Rg w0 w W pe pr sv l s C) (h0 : l ≠ []) : Off sv [pr] := fun b hb hm => by
  have := h.pl.src.lt h0 hb
  have := h.pl.lr
  simp at hm
  omega
theorem Rg.read (h : Rg w0 w W pe pr sv l s C) (ho : Only [pr] W W') (hr : ∃ a, RfAt W' pr sv a s'.2 ∧ a ≤ l.length ∧ s'.1 = if s'.2 = true then [] else l.drop a) : Rg w0 w W' pe pr sv l s' C :=
  ⟨h.pl, hr, (ho.block pe (Array.getElem?_eq_some_iff.1 h.ev).1 (by have := h.pl.ne; simp; omega)).trans h.ev, h.on.trans (ho.more (by simp))⟩
theorem Rg.put (h : Rg w0 w W pe pr sv l s C) (f : Nat) (v : Value) (hC : (W.setCell ⟨pe, f, none⟩ v).heap[pe]? = some (.cells C' 30 (0, 0))) : Rg w0 w (W.setCell ⟨pe, f, none⟩ v) pe pr sv l s C' := by
  have ho : Only [pe] W (W.setCell ⟨pe, f, none⟩ v) := Only.setCell _ _ _ (by simp)
  obtain ⟨a, h1, h2⟩ := h.rf
  exact ⟨h.pl, ⟨a, h1.only ho (by have := h.pl.ne; simp; omega), h2⟩, hC, h.on.trans (ho.more (by simp))⟩
theorem Rg.up (h : Rg w0 w W pe pr sv l s C) (hb : Below W.heap.size W W') : Rg w0 w W' pe pr sv l s C := by
  obtain ⟨a, h1, h2⟩ := h.rf
  exact ⟨h.pl, ⟨a, h1.below hb, h2⟩, (hb.block pe (Array.getElem?_eq_some_iff.1 h.ev).1).trans h.ev, h.on.trans (Only.of_below hb _)⟩
theorem d37 (h : Hid (Rg w0 w W pe pr sv l s C)) {lo hi n : Int} (he : Hid (rN lo hi s = (n, s'))) :
    Calls Try.prog 37 #[.pointer (some ⟨pr, 0, none⟩), .int .i64 lo, .int .i64 hi] W fun e w' => e = .returned (.int .i64 n) ∧ Hid (Rg w0 w w' pe pr sv l s' C) ∧ Hid (Only [pr] W w') := by
  have hg := h.out
  obtain ⟨a, h1, h4, h6⟩ := hg.rf
  have h5 := hg.pl.len
  have h2 := hg.src
  replace he := he.out
  obtain ⟨sl, sb⟩ := s
  simp only at h1 h6
  cases sb with
  | true =>
    simp only [if_true] at h6
    subst h6
    unfold rN at he
    rw [if_pos (.inl (by simp))] at he
    cases he
    refine (RNum_none W pr a sv l true lo hi h1 h2 h5 h4 (.inl rfl)).mono ?_
    rintro e w' ⟨rfl, k1, k2⟩
    exact ⟨rfl, hg.read k2 ⟨a, k1, h4, rfl⟩, k2⟩
  | false =>
    simp only [Bool.false_eq_true, if_false] at h6
    subst h6
    unfold rN at he
    simp only [List.length_drop] at he
    split at he
    · rename_i hc
      cases he
      by_cases hk : l.length < a + 6
      · refine (RNum_none W pr a sv l false lo hi h1 h2 h5 h4 (.inr hk)).mono ?_
        rintro e w' ⟨rfl, k1, k2⟩
        exact ⟨rfl, hg.read k2 ⟨a, k1, h4, rfl⟩, k2⟩
      · refine (RNum_out W pr a sv l lo hi _ h1 h2 h5 (by omega) rfl (by omega)).mono ?_
        rintro e w' ⟨rfl, k1, k2⟩
        exact ⟨rfl, hg.read k2 ⟨a + 6, k1, by omega, rfl⟩, k2⟩
    · rename_i hc
      cases he
      refine (RNum_ok W pr a sv l lo hi _ h1 h2 h5 (by omega) rfl (by omega) (by omega)).mono ?_
      rintro e w' ⟨rfl, k1, k2⟩
      exact ⟨rfl, hg.read k2 ⟨a + 6, k1, by omega, by simp [List.drop_drop]⟩, k2⟩
theorem back (h : Rg w0 w W pe pr sv l s C) (ho : Only [pr] W W') {v : Value} {t : List Nat} (hl : t ≠ [] → l ≠ []) (hv : v.ownBlock = sv.ownBlock ∨ v = .slice none 0 0) (hs : Src W' v t) : Src w0 v t := hs.at (fun b hb h0 => by
  rcases hv with e | e
  · rw [e] at hb
    have hlt := h.pl.src.lt (hl h0) hb
    have hlr := h.pl.lr
    exact ((ho.block b (Nat.lt_of_lt_of_le hlt h.below.size) (by simp; omega)).trans (h.below.block b hlt)).symm
  · rw [e] at hb
    cases hb)
theorem d49 (h : Hid (Rg w0 w W pe pr sv l s C)) {lo hi : Int} {t : List Nat} (he : Hid (rT lo hi s = (t, s'))) :
    Calls Try.prog 49 #[.pointer (some ⟨pr, 0, none⟩), .int .i64 lo, .int .i64 hi] W fun e w' => ∃ tp tc, e = .returned (.slice tp t.length tc) ∧ Hid (Src w0 (.slice tp t.length tc) t ∧ t.length ≤ 100000) ∧ Hid (Rg w0 w w' pe pr sv l s' C) ∧ Hid (Only [pr] W w') := by
  have hg := h.out
  obtain ⟨a, h1, h4, h6⟩ := hg.rf
  have h5 := hg.pl.len
  have h2 := hg.src
  replace he := he.out
  obtain ⟨sl, sb⟩ := s
  simp only at h1 h6
  cases sb with
  | true =>
    simp only [if_true] at h6
    subst h6
    unfold rT at he
    rw [if_pos (.inl (by simp))] at he
    cases he
    refine (RText_none W pr a sv l true lo hi h1 h2 h5 h4 (.inl rfl)).mono ?_
    rintro e w' ⟨rfl, k1, k2⟩
    exact ⟨none, 0, rfl, ⟨Src.nil _, by simp⟩, hg.read k2 ⟨a, k1, h4, rfl⟩, k2⟩
  | false =>
    simp only [Bool.false_eq_true, if_false] at h6
    subst h6
    unfold rT at he
    simp only [List.length_drop] at he
    split at he
    · rename_i hc
      cases he
      by_cases hk : l.length < a + 2
      · refine (RText_none W pr a sv l false lo hi h1 h2 h5 h4 (.inr hk)).mono ?_
        rintro e w' ⟨rfl, k1, k2⟩
        exact ⟨none, 0, rfl, ⟨Src.nil _, by simp⟩, hg.read k2 ⟨a, k1, h4, rfl⟩, k2⟩
      · refine (RText_out W pr a sv l lo hi _ h1 h2 h5 (by omega) rfl (by omega)).mono ?_
        rintro e w' ⟨rfl, k1, k2⟩
        exact ⟨none, 0, rfl, ⟨Src.nil _, by simp⟩, hg.read k2 ⟨a + 2, k1, by omega, rfl⟩, k2⟩
    · rename_i hc
      have hl0 : l ≠ [] := by intro e; subst e; simp at hc
      cases he
      refine (RText_ok W pr a sv l lo hi _ h1 h2 (hg.off hl0) h5 (by omega) rfl (by omega) (by omega)).mono ?_
      rintro e w' ⟨v, rfl, k0, k1, k2, k3⟩
      have k4 := back hg k3 (fun _ => hl0) (.inl k0) k1
      rw [← List.drop_drop] at k4
      obtain ⟨tp, tc, rfl, -⟩ := k4.slice
      refine ⟨tp, tc, rfl, ⟨k4, ?_⟩, hg.read k3 ⟨_, k2, by omega, by simp [List.drop_drop, Nat.add_assoc]⟩, k3⟩
      rw [List.length_take, List.length_drop, List.length_drop]
      omega
theorem d39 (h : Rg w0 w W pe pr sv l s C) : Calls Try.prog 39 #[.pointer (some ⟨pr, 0, none⟩)] W fun e w' => e = .returned (.bool (!s.2 && decide (s.1 = []))) ∧ ∃ k, w' = W.drewN k := by
  obtain ⟨a, h1, h4, h6⟩ := h.rf
  refine (REnd_any W pr a sv l s.2 h1 h.src).mono ?_
  rintro e w' ⟨rfl, k⟩
  refine ⟨?_, k⟩
  congr 2
  obtain ⟨sl, sb⟩ := s
  cases sb with
  | true => rfl
  | false =>
    simp only [Bool.false_eq_true, if_false] at h6
    subst h6
    simp only [Bool.not_false, Bool.true_and, decide_eq_decide, List.drop_eq_nil_iff]
    omega
end
/-- What rest leaves. -/
def RstSays (w0 w : World) (pe pr : Nat) (sv : Value) (l : List Nat) (E : En) (s : Sta) (w' : World) : Prop :=
  ∃ np nc vp vc q c, Rg w0 w w' pe pr sv l s (EnV E np nc vp vc q c) ∧ EnF w0.heap.size (pe + 1) w' (.agg (EnV E np nc vp vc q c)) E
set_option maxHeartbeats 4000000 in
theorem rk1 (w0 w : World) (pe pr : Nat) (sv : Value) (l : List Nat) (a b : Int) (s : Sta) (G0 : Hid (Rg w0 w w pe pr sv l s #[.int .i64 1, .int .i64 a, .int .i64 b, .slice none 0 0, .slice none 0 0, .int .i64 0, .int .i64 0, .int .i64 0, .slice none 0 0])) (t4 : List Nat) (s4 : Sta) (H4 : Hid (rT 1 64 s = (t4, s4))) (t5 : List Nat) (s5 : Sta) (H5 : Hid (rT 0 512 s4 = (t5, s5))) :
    Calls Try.prog 38 #[.pointer (some ⟨pe, 0, none⟩), .pointer (some ⟨pr, 0, none⟩)] w fun e w' => e = .returned (.tuple #[]) ∧ RstSays w0 w pe pr sv l ⟨1, a, b, t4, t5, 0, 0, 0, []⟩ s5 w' := by
  obtain ⟨S, HSS⟩ : ∃ S, Hid (RstSays w0 w pe pr sv l ⟨1, a, b, t4, t5, 0, 0, 0, []⟩ s5 = S) := ⟨_, rfl⟩
  rw [HSS.out]
  have z0 : w.cell? ⟨pe, 0, none⟩ = some (.int .i64 1) := by rw [cell_of_row _ _ _ _ _ _ G0.out.ev]; rfl
  go_enter Try.func38, Try.ntmps38
  go_wp2_with fail
  refine (d49 G0 H4).mono ?_
  rintro e u0 ⟨tp0, tc0, rfl, T0, G1, _⟩
  have x0 : u0.cell? ⟨pe, 3, none⟩ = some (.slice none 0 0) := by rw [cell_of_row _ _ _ _ _ _ G1.out.ev]; rfl
  have y0 : u0.frozen? ⟨pe, 3, none⟩ = false := frozen_of_row _ _ _ _ _ G1.out.ev
  have G2 : Hid (Rg w0 w (u0.setCell ⟨pe, 3, none⟩ (.slice tp0 t4.length tc0)) pe pr sv l s4 #[.int .i64 1, .int .i64 a, .int .i64 b, .slice tp0 t4.length tc0, .slice none 0 0, .int .i64 0, .int .i64 0, .int .i64 0, .slice none 0 0]) := G1.out.put 3 _ (heap_setCell_same _ pe 3 _ 30 _ G1.out.ev)
  clear G0 G1
  go_wp2_with fail
  refine (d49 G2 H5).mono ?_
  rintro e u1 ⟨tp1, tc1, rfl, T1, G3, _⟩
  have x1 : u1.cell? ⟨pe, 4, none⟩ = some (.slice none 0 0) := by rw [cell_of_row _ _ _ _ _ _ G3.out.ev]; rfl
  have y1 : u1.frozen? ⟨pe, 4, none⟩ = false := frozen_of_row _ _ _ _ _ G3.out.ev
  have G4 : Hid (Rg w0 w (u1.setCell ⟨pe, 4, none⟩ (.slice tp1 t5.length tc1)) pe pr sv l s5 #[.int .i64 1, .int .i64 a, .int .i64 b, .slice tp0 t4.length tc0, .slice tp1 t5.length tc1, .int .i64 0, .int .i64 0, .int .i64 0, .slice none 0 0]) := G3.out.put 4 _ (heap_setCell_same _ pe 4 _ 30 _ G3.out.ev)
  clear G2 G3
  have HF : Hid (S (u1.setCell ⟨pe, 4, none⟩ (.slice tp1 t5.length tc1))) := by
    rw [← HSS.out]
    exact ⟨tp0, tc0, tp1, tc1, none, 0, G4.out, fun w2 ha => ⟨tp0, tc0, tp1, tc1, none, 0, rfl, src_far T0.out.1 G4.out.below ha, src_far T1.out.1 G4.out.below ha, WrRow.nil _ _, (by have := T0.out.2; simp only; omega), (by have := T1.out.2; simp only; omega), by simp⟩⟩
  clear G4 HSS
  go_wp2_with fail
  go_end0
  exact ⟨rfl, HF.out⟩
set_option maxHeartbeats 4000000 in
theorem rk2 (w0 w : World) (pe pr : Nat) (sv : Value) (l : List Nat) (a b : Int) (s : Sta) (G0 : Hid (Rg w0 w w pe pr sv l s #[.int .i64 2, .int .i64 a, .int .i64 b, .slice none 0 0, .slice none 0 0, .int .i64 0, .int .i64 0, .int .i64 0, .slice none 0 0])) (t4 : List Nat) (s4 : Sta) (H4 : Hid (rT 1 64 s = (t4, s4))) :
    Calls Try.prog 38 #[.pointer (some ⟨pe, 0, none⟩), .pointer (some ⟨pr, 0, none⟩)] w fun e w' => e = .returned (.tuple #[]) ∧ RstSays w0 w pe pr sv l ⟨2, a, b, t4, [], 0, 0, 0, []⟩ s4 w' := by
  obtain ⟨S, HSS⟩ : ∃ S, Hid (RstSays w0 w pe pr sv l ⟨2, a, b, t4, [], 0, 0, 0, []⟩ s4 = S) := ⟨_, rfl⟩
  rw [HSS.out]
  have z0 : w.cell? ⟨pe, 0, none⟩ = some (.int .i64 2) := by rw [cell_of_row _ _ _ _ _ _ G0.out.ev]; rfl
  go_enter Try.func38, Try.ntmps38
  go_wp2_with fail
  refine (d49 G0 H4).mono ?_
  rintro e u0 ⟨tp0, tc0, rfl, T0, G1, _⟩
  have x0 : u0.cell? ⟨pe, 3, none⟩ = some (.slice none 0 0) := by rw [cell_of_row _ _ _ _ _ _ G1.out.ev]; rfl
  have y0 : u0.frozen? ⟨pe, 3, none⟩ = false := frozen_of_row _ _ _ _ _ G1.out.ev
  have G2 : Hid (Rg w0 w (u0.setCell ⟨pe, 3, none⟩ (.slice tp0 t4.length tc0)) pe pr sv l s4 #[.int .i64 2, .int .i64 a, .int .i64 b, .slice tp0 t4.length tc0, .slice none 0 0, .int .i64 0, .int .i64 0, .int .i64 0, .slice none 0 0]) := G1.out.put 3 _ (heap_setCell_same _ pe 3 _ 30 _ G1.out.ev)
  clear G0 G1
  have HF : Hid (S (u0.setCell ⟨pe, 3, none⟩ (.slice tp0 t4.length tc0))) := by
    rw [← HSS.out]
    exact ⟨tp0, tc0, none, 0, none, 0, G2.out, fun w2 ha => ⟨tp0, tc0, none, 0, none, 0, rfl, src_far T0.out.1 G2.out.below ha, Src.nil _, WrRow.nil _ _, (by have := T0.out.2; simp only; omega), (by simp), by simp⟩⟩
  clear G2 HSS
  go_wp2_with fail
  go_end0
  exact ⟨rfl, HF.out⟩
set_option maxHeartbeats 4000000 in
theorem rk3 (w0 w : World) (pe pr : Nat) (sv : Value) (l : List Nat) (a b : Int) (s : Sta) (G0 : Hid (Rg w0 w w pe pr sv l s #[.int .i64 3, .int .i64 a, .int .i64 b, .slice none 0 0, .slice none 0 0, .int .i64 0, .int .i64 0, .int .i64 0, .slice none 0 0])) (n4 : Int) (s4 : Sta) (H4 : Hid (rN 1 16 s = (n4, s4))) (n5 : Int) (s5 : Sta) (H5 : Hid (rN 1 7 s4 = (n5, s5))) :
    Calls Try.prog 38 #[.pointer (some ⟨pe, 0, none⟩), .pointer (some ⟨pr, 0, none⟩)] w fun e w' => e = .returned (.tuple #[]) ∧ RstSays w0 w pe pr sv l ⟨3, a, b, [], [], n4, n5, 0, []⟩ s5 w' := by
  obtain ⟨S, HSS⟩ : ∃ S, Hid (RstSays w0 w pe pr sv l ⟨3, a, b, [], [], n4, n5, 0, []⟩ s5 = S) := ⟨_, rfl⟩
  rw [HSS.out]
  have z0 : w.cell? ⟨pe, 0, none⟩ = some (.int .i64 3) := by rw [cell_of_row _ _ _ _ _ _ G0.out.ev]; rfl
  go_enter Try.func38, Try.ntmps38
  go_wp2_with fail
  refine (d37 G0 H4).mono ?_
  rintro e u0 ⟨rfl, G1, _⟩
  have x0 : u0.cell? ⟨pe, 5, none⟩ = some (.int .i64 0) := by rw [cell_of_row _ _ _ _ _ _ G1.out.ev]; rfl
  have y0 : u0.frozen? ⟨pe, 5, none⟩ = false := frozen_of_row _ _ _ _ _ G1.out.ev
  have G2 : Hid (Rg w0 w (u0.setCell ⟨pe, 5, none⟩ (.int .i64 n4)) pe pr sv l s4 #[.int .i64 3, .int .i64 a, .int .i64 b, .slice none 0 0, .slice none 0 0, .int .i64 n4, .int .i64 0, .int .i64 0, .slice none 0 0]) := G1.out.put 5 _ (heap_setCell_same _ pe 5 _ 30 _ G1.out.ev)
  clear G0 G1
  go_wp2_with fail
  refine (d37 G2 H5).mono ?_
  rintro e u1 ⟨rfl, G3, _⟩
  have x1 : u1.cell? ⟨pe, 6, none⟩ = some (.int .i64 0) := by rw [cell_of_row _ _ _ _ _ _ G3.out.ev]; rfl
  have y1 : u1.frozen? ⟨pe, 6, none⟩ = false := frozen_of_row _ _ _ _ _ G3.out.ev
  have G4 : Hid (Rg w0 w (u1.setCell ⟨pe, 6, none⟩ (.int .i64 n5)) pe pr sv l s5 #[.int .i64 3, .int .i64 a, .int .i64 b, .slice none 0 0, .slice none 0 0, .int .i64 n4, .int .i64 n5, .int .i64 0, .slice none 0 0]) := G3.out.put 6 _ (heap_setCell_same _ pe 6 _ 30 _ G3.out.ev)
  clear G2 G3
  have HF : Hid (S (u1.setCell ⟨pe, 6, none⟩ (.int .i64 n5))) := by
    rw [← HSS.out]
    exact ⟨none, 0, none, 0, none, 0, G4.out, fun w2 _ => ⟨none, 0, none, 0, none, 0, rfl, Src.nil _, Src.nil _, WrRow.nil _ _, (by simp), (by simp), by simp⟩⟩
  clear G4 HSS
  go_wp2_with fail
  go_end0
  exact ⟨rfl, HF.out⟩
set_option maxHeartbeats 4000000 in
theorem rk4 (w0 w : World) (pe pr : Nat) (sv : Value) (l : List Nat) (a b : Int) (s : Sta) (G0 : Hid (Rg w0 w w pe pr sv l s #[.int .i64 4, .int .i64 a, .int .i64 b, .slice none 0 0, .slice none 0 0, .int .i64 0, .int .i64 0, .int .i64 0, .slice none 0 0])) (n4 : Int) (s4 : Sta) (H4 : Hid (rN 1 16 s = (n4, s4))) :
    Calls Try.prog 38 #[.pointer (some ⟨pe, 0, none⟩), .pointer (some ⟨pr, 0, none⟩)] w fun e w' => e = .returned (.tuple #[]) ∧ RstSays w0 w pe pr sv l ⟨4, a, b, [], [], n4, 0, 0, []⟩ s4 w' := by
  obtain ⟨S, HSS⟩ : ∃ S, Hid (RstSays w0 w pe pr sv l ⟨4, a, b, [], [], n4, 0, 0, []⟩ s4 = S) := ⟨_, rfl⟩
  rw [HSS.out]
  have z0 : w.cell? ⟨pe, 0, none⟩ = some (.int .i64 4) := by rw [cell_of_row _ _ _ _ _ _ G0.out.ev]; rfl
  go_enter Try.func38, Try.ntmps38
  go_wp2_with fail
  refine (d37 G0 H4).mono ?_
  rintro e u0 ⟨rfl, G1, _⟩
  have x0 : u0.cell? ⟨pe, 5, none⟩ = some (.int .i64 0) := by rw [cell_of_row _ _ _ _ _ _ G1.out.ev]; rfl
  have y0 : u0.frozen? ⟨pe, 5, none⟩ = false := frozen_of_row _ _ _ _ _ G1.out.ev
  have G2 : Hid (Rg w0 w (u0.setCell ⟨pe, 5, none⟩ (.int .i64 n4)) pe pr sv l s4 #[.int .i64 4, .int .i64 a, .int .i64 b, .slice none 0 0, .slice none 0 0, .int .i64 n4, .int .i64 0, .int .i64 0, .slice none 0 0]) := G1.out.put 5 _ (heap_setCell_same _ pe 5 _ 30 _ G1.out.ev)
  clear G0 G1
  have HF : Hid (S (u0.setCell ⟨pe, 5, none⟩ (.int .i64 n4))) := by
    rw [← HSS.out]
    exact ⟨none, 0, none, 0, none, 0, G2.out, fun w2 _ => ⟨none, 0, none, 0, none, 0, rfl, Src.nil _, Src.nil _, WrRow.nil _ _, (by simp), (by simp), by simp⟩⟩
  clear G2 HSS
  go_wp2_with fail
  go_end0
  exact ⟨rfl, HF.out⟩
set_option maxHeartbeats 4000000 in
theorem rk0 (w0 w : World) (pe pr : Nat) (sv : Value) (l : List Nat) (k a b : Int) (s : Sta) (G0 : Hid (Rg w0 w w pe pr sv l s #[.int .i64 k, .int .i64 a, .int .i64 b, .slice none 0 0, .slice none 0 0, .int .i64 0, .int .i64 0, .int .i64 0, .slice none 0 0])) (k1 : ¬ k = 1) (k2 : ¬ k = 2) (k3 : ¬ k = 3) (k4 : ¬ k = 4) (k5 : ¬ k = 5) :
    Calls Try.prog 38 #[.pointer (some ⟨pe, 0, none⟩), .pointer (some ⟨pr, 0, none⟩)] w fun e w' => e = .returned (.tuple #[]) ∧ RstSays w0 w pe pr sv l ⟨k, a, b, [], [], 0, 0, 0, []⟩ s w' := by
  obtain ⟨S, HSS⟩ : ∃ S, Hid (RstSays w0 w pe pr sv l ⟨k, a, b, [], [], 0, 0, 0, []⟩ s = S) := ⟨_, rfl⟩
  rw [HSS.out]
  have z0 : w.cell? ⟨pe, 0, none⟩ = some (.int .i64 k) := by rw [cell_of_row _ _ _ _ _ _ G0.out.ev]; rfl
  have zk1 : (k == 1) = false := by simp [k1]
  have zk2 : (k == 2) = false := by simp [k2]
  have zk3 : (k == 3) = false := by simp [k3]
  have zk4 : (k == 4) = false := by simp [k4]
  have zk5 : (k == 5) = false := by simp [k5]
  go_enter Try.func38, Try.ntmps38
  go_wp2_with fail
  have HF : Hid (S w) := by
    rw [← HSS.out]
    exact ⟨none, 0, none, 0, none, 0, G0.out, fun w2 _ => ⟨none, 0, none, 0, none, 0, rfl, Src.nil _, Src.nil _, WrRow.nil _ _, (by simp), (by simp), by simp⟩⟩
  clear G0 HSS
  go_wp2_with fail
  go_end0
  exact ⟨rfl, HF.out⟩
end Go.Proofs.Ytiihdpkpgcmioaa.E9
