/- The two texts that are in a bucket; records that are set whole. -/
import Derived.Test.YtfjdaafckiefdaaGreatDoorS15Mark
import Derived.Test.YtfjdaafckiefdaaGreatDoorMgD
namespace Go.Proofs.YtfjdaafckiefdaaGreatDoor.S15
open Go.RowKit C8 E9
open S7 (Fr Kx By)
theorem row5 {w : World} {b : Nat} {t : TypeId} {x0 x1 x2 x3 x4 : Value} (h : w.heap[b]? = some (.cells #[x0, x1, x2, x3, x4] t (0, 0))) (v0 v1 v2 v3 v4 : Value) :
    (((((w.setCell ⟨b, 0, none⟩ v0).setCell ⟨b, 1, none⟩ v1).setCell ⟨b, 2, none⟩ v2).setCell ⟨b, 3, none⟩ v3).setCell ⟨b, 4, none⟩ v4).heap[b]? = some (.cells #[v0, v1, v2, v3, v4] t (0, 0)) := by
  have k0 : (w.setCell ⟨b, 0, none⟩ v0).heap[b]? = some (.cells #[v0, x1, x2, x3, x4] t (0, 0)) := heap_setCell_same _ b 0 _ t v0 h
  have k1 : ((w.setCell ⟨b, 0, none⟩ v0).setCell ⟨b, 1, none⟩ v1).heap[b]? = some (.cells #[v0, v1, x2, x3, x4] t (0, 0)) := heap_setCell_same _ b 1 _ t v1 k0
  have k2 : (((w.setCell ⟨b, 0, none⟩ v0).setCell ⟨b, 1, none⟩ v1).setCell ⟨b, 2, none⟩ v2).heap[b]? = some (.cells #[v0, v1, v2, x3, x4] t (0, 0)) := heap_setCell_same _ b 2 _ t v2 k1
  have k3 : ((((w.setCell ⟨b, 0, none⟩ v0).setCell ⟨b, 1, none⟩ v1).setCell ⟨b, 2, none⟩ v2).setCell ⟨b, 3, none⟩ v3).heap[b]? = some (.cells #[v0, v1, v2, v3, x4] t (0, 0)) := heap_setCell_same _ b 3 _ t v3 k2
  exact heap_setCell_same _ b 4 _ t v4 k3
theorem bel5 {w0 w : World} {b A : Nat} (h : Below A w0 w) (hb : A ≤ b) (v0 v1 v2 v3 v4 : Value) : Below A w0 (((((w.setCell ⟨b, 0, none⟩ v0).setCell ⟨b, 1, none⟩ v1).setCell ⟨b, 2, none⟩ v2).setCell ⟨b, 3, none⟩ v3).setCell ⟨b, 4, none⟩ v4) :=
  (((((h.setCell (p := ⟨b, 0, none⟩) hb v0).setCell (p := ⟨b, 1, none⟩) hb v1).setCell (p := ⟨b, 2, none⟩) hb v2).setCell (p := ⟨b, 3, none⟩) hb v3).setCell (p := ⟨b, 4, none⟩) hb v4)
theorem only5 (w : World) (b : Nat) (v0 v1 v2 v3 v4 : Value) : S7.Only [b] w (((((w.setCell ⟨b, 0, none⟩ v0).setCell ⟨b, 1, none⟩ v1).setCell ⟨b, 2, none⟩ v2).setCell ⟨b, 3, none⟩ v3).setCell ⟨b, 4, none⟩ v4) :=
  (((((S7.Only.setCell _ _ _ (by simp)).trans (S7.Only.setCell _ _ _ (by simp))).trans (S7.Only.setCell _ _ _ (by simp))).trans (S7.Only.setCell _ _ _ (by simp))).trans (S7.Only.setCell _ _ _ (by simp)))
theorem only9s (w : World) (b : Nat) (v0 v1 v2 v3 v4 v5 v6 v7 v8 : Value) : S7.Only [b] w (((((((((w.setCell ⟨b, 0, none⟩ v0).setCell ⟨b, 1, none⟩ v1).setCell ⟨b, 2, none⟩ v2).setCell ⟨b, 3, none⟩ v3).setCell ⟨b, 4, none⟩ v4).setCell ⟨b, 5, none⟩ v5).setCell ⟨b, 6, none⟩ v6).setCell ⟨b, 7, none⟩ v7).setCell ⟨b, 8, none⟩ v8) :=
  (((((((((S7.Only.setCell _ _ _ (by simp)).trans (S7.Only.setCell _ _ _ (by simp))).trans (S7.Only.setCell _ _ _ (by simp))).trans (S7.Only.setCell _ _ _ (by simp))).trans (S7.Only.setCell _ _ _ (by simp))).trans (S7.Only.setCell _ _ _ (by simp))).trans (S7.Only.setCell _ _ _ (by simp))).trans (S7.Only.setCell _ _ _ (by simp))).trans (S7.Only.setCell _ _ _ (by simp)))
/-- A block that is new may be turned: what stood before is framed as it was. -/
theorem Fr.fresh {bs : List Nat} {ts : List (Option TypeId)} {B b : Nat} {w w1 w2 : World} (h : Fr bs ts B w w1) (ho : S7.Only [b] w1 w2) (hb : w.heap.size ≤ b) (hB : B ≤ w.heap.size) : Fr bs ts B w w2 :=
  ⟨⟨ho.os.trans h.only.os, ho.tape.trans h.only.tape, ho.output.trans h.only.output, Nat.le_trans h.size ho.size, fun k hk hn => (ho.block k (Nat.lt_of_lt_of_le hk h.size) (by simp; omega)).trans (h.only.block k hk hn)⟩,
   ⟨h.kx.low.trans (ho.below (Nat.le_trans hB h.size) (by simp; omega)), fun k o hk ht => (ho.block k (by have := (Array.getElem?_eq_some_iff.1 hk).1; have := h.size; omega) (by have := (Array.getElem?_eq_some_iff.1 hk).1; simp; omega)).trans (h.kx.row k o hk ht)⟩⟩
theorem agree_only {A : Nat} {bs : List Nat} {w w' : World} (h : S7.Only bs w w') (hs : ∀ y ∈ bs, y < A) : Agree A w w' := ⟨fun k hk hl => h.block k hl (fun e => by have := hs k e; omega), h.size⟩
theorem agree_mono {A A' : Nat} {w w' : World} (h : Agree A w w') (hA : A ≤ A') : Agree A' w w' := ⟨fun k hk hl => h.1 k (by omega) hl, h.2⟩
/-- A text whose bytes lie from A on. -/
def Fa (A : Nat) (w : World) (v : Value) (l : List Nat) : Prop := ∀ w2, Agree A w w2 → Src w2 v l
theorem Fa.src {A : Nat} {w : World} {v : Value} {l : List Nat} (h : Fa A w v l) : Src w v l := h w (Agree.refl _ _)
theorem Fa.agree {A : Nat} {w w2 : World} {v : Value} {l : List Nat} (h : Fa A w v l) (ha : Agree A w w2) : Fa A w2 v l := fun w3 h3 => h w3 (ha.trans h3)
theorem Fa.below {A : Nat} {w w2 : World} {v : Value} {l : List Nat} (h : Fa A w v l) (hb : Below w.heap.size w w2) : Fa A w2 v l := h.agree (Agree.below hb)
theorem Fa.own {A n : Nat} {w : World} {v : Value} {l : List Nat} (hs : ∀ x ∈ l, x < 256) (h : w.ownsRow A 5 1 v n (ints .u8 l)) : Fa A w v l := fun w2 ha => by
  obtain ⟨hl, h1 | ⟨g, cap, cur, rfl, hg, hh, hr⟩⟩ := h
  · exact Src.own (base := A) (n := n) hs ⟨hl, .inl h1⟩
  · exact Src.own (base := A) (n := n) hs ⟨hl, .inr ⟨g, cap, cur, rfl, hg, (ha.1 g hg (Array.getElem?_eq_some_iff.1 hh).1).trans hh, hr⟩⟩
def rightB (b : List Nat) : Bool := decide (2 ≤ b.length) && (decide (bsz (cnt b) = b.length) && allN (tailL b))
theorem rightB_iff (b : List Nat) : rightB b = true ↔ Right b := by
  unfold rightB Right
  rw [Bool.and_eq_true, Bool.and_eq_true, decide_eq_true_iff, decide_eq_true_iff, allN_iff]
/-- The two texts of a bucket, if it is one of two. -/
def takeL (l : List Nat) : Option (List Nat × List Nat) :=
  if rightB l = true then
    if (!(rT 0 4096 (rT 0 4096 (txtL l, false)).2).2.2 && decide ((rT 0 4096 (rT 0 4096 (txtL l, false)).2).2.1 = [])) = true then some ((rT 0 4096 (txtL l, false)).1, (rT 0 4096 (rT 0 4096 (txtL l, false)).2).1) else none
  else none
def TakeSays (l : List Nat) (w : World) (e : Ending) (w' : World) : Prop :=
  Below w.heap.size w w' ∧ match takeL l with
  | some (a, b) => ∃ av bv, e = .returned (.tuple #[av, bv, .int .i64 0]) ∧ Fa w.heap.size w' av a ∧ Fa w.heap.size w' bv b
  | none => e = .returned (.tuple #[.slice none 0 0, .slice none 0 0, .int .i64 10])
set_option maxHeartbeats 2000000 in
theorem take_any (v : Value) (l : List Nat) (w : World) (hv : Src w v l) (hl : l.length ≤ 50000) : Calls Tryz.prog 67 #[v] w (TakeSays l w) := by
  by_cases hr : rightB l = true
  · have hr' := (rightB_iff l).1 hr
    have HST : Hid (Calls Tryz.prog 110 #[v] w fun e w' => ∃ uq uc, e = .returned (.tuple #[.slice uq (txtL l).length uc, .int .i64 0]) ∧ Src w' (.slice uq (txtL l).length uc) (txtL l) ∧ Below w.heap.size w w') := by
      refine (Strip_ok v w hv hr').mono ?_
      rintro e w' ⟨u, rfl, h1, h2⟩
      have hs := Src.own (fun x hx => hv.small x (List.mem_of_mem_drop (List.mem_of_mem_take hx))) h1
      obtain ⟨uq, uc, rfl, -⟩ := hs.slice
      exact ⟨uq, uc, rfl, hs, h2⟩
    have htl : (txtL l).length ≤ 900000 := by
      unfold txtL
      rw [List.length_take, List.length_drop]
      omega
    obtain ⟨a, s1, H1⟩ : ∃ a s1, rT 0 4096 (txtL l, false) = (a, s1) := ⟨_, _, rfl⟩
    obtain ⟨b, s2, H2⟩ : ∃ b s2, rT 0 4096 s1 = (b, s2) := ⟨_, _, rfl⟩
    obtain ⟨en, HEN⟩ : ∃ en, (!s2.2 && decide (s2.1 = [])) = en := ⟨_, rfl⟩
    have HT : Hid (takeL l = if en = true then some (a, b) else none) := by
      show takeL l = _
      unfold takeL
      rw [if_pos hr, H1]
      simp only
      rw [H2]
      simp only
      rw [HEN]
    have K1 := hid H1
    have K2 := hid H2
    have KE := hid HEN
    have HTL := hid htl
    obtain ⟨vq, vc, rfl, -⟩ := hv.slice
    obtain ⟨S, HS⟩ : ∃ S, Hid (TakeSays l w = S) := ⟨_, rfl⟩
    rw [HS.out]
    generalize txtL l = tl at *
    obtain ⟨tn, HTN⟩ : ∃ tn, Hid (tl.length = tn) := ⟨_, rfl⟩
    rw [HTN.out] at HST
    clear hv hl hr hr' htl H1 H2 HEN
    generalize l.length = ln at *
    go_enter Tryz.func67, Tryz.ntmps67
    go_wp2_with fail
    refine HST.out.mono ?_
    rintro e w1 ⟨uq, uc, rfl, h1, h2⟩
    have G1 : Hid (Src w1 (.slice uq tn uc) tl ∧ Below w.heap.size w w1) := ⟨h1, h2⟩
    clear h1 h2 HST
    go_wp2_with fail
    refine (read_any _ tl w1 G1.out.1 HTL.out).mono ?_
    rintro e w2 ⟨p, rfl, h1, h2, h3, h4⟩
    have G2 : Hid (RdS w2 p w1.heap.size w2.heap.size (tl, false) ∧ w1.heap.size ≤ p ∧ Below w.heap.size w w2 ∧ w.heap.size ≤ w1.heap.size) := ⟨h1, h2, G1.out.2.trans (h4.mono G1.out.2.size), G1.out.2.size⟩
    clear h1 h2 h3 h4 G1 HTL
    generalize w1.heap.size = A at *
    generalize w2.heap.size = B2 at *
    go_wp2_with fail
    refine (text_any w2 p A B2 _ s1 0 4096 a G2.out.1 K1.out).mono ?_
    rintro e w3 ⟨ap, ac, rfl, h1, h2, h3⟩
    have G3 : Hid (Tx w3 p A B2 (.slice ap a.length ac) a ∧ RdS w3 p A B2 s1 ∧ A ≤ p ∧ Below w.heap.size w w3 ∧ w.heap.size ≤ A) := ⟨h1, h2, G2.out.2.1, G2.out.2.2.1.trans (h3.below G2.out.2.2.1.size (by have := G2.out.2.1; have := G2.out.2.2.2; simp; omega)), G2.out.2.2.2⟩
    clear h1 h2 h3 G2
    go_wp2_with fail
    refine (text_any w3 p A B2 s1 s2 0 4096 b G3.out.2.1 K2.out).mono ?_
    rintro e w4 ⟨bp, bc, rfl, h1, h2, h3⟩
    have G4 : Hid (Tx w4 p A B2 (.slice ap a.length ac) a ∧ Tx w4 p A B2 (.slice bp b.length bc) b ∧ RdS w4 p A B2 s2 ∧ Below w.heap.size w w4 ∧ w.heap.size ≤ A) := ⟨G3.out.1.only h3, h1, h2, G3.out.2.2.2.1.trans (h3.below G3.out.2.2.2.1.size (by have := G3.out.2.2.1; have := G3.out.2.2.2.2; simp; omega)), G3.out.2.2.2.2⟩
    clear h1 h2 h3 G3 K1 K2
    obtain ⟨al, HAL⟩ : ∃ al, Hid (a.length = al) := ⟨_, rfl⟩
    obtain ⟨bl, HBL⟩ : ∃ bl, Hid (b.length = bl) := ⟨_, rfl⟩
    rw [HAL.out, HBL.out] at G4
    rw [HAL.out, HBL.out]
    go_wp2_with fail
    refine (end_any w4 p A B2 s2 G4.out.2.2.1).mono ?_
    rintro e w5 ⟨rfl, hw⟩
    obtain rfl : w4 = w5 := hw.symm
    rw [KE.out]
    clear hw KE
    cases en with
    | false =>
      go_wp2_with fail
      go_ret3
      rw [← HS.out]
      refine ⟨G4.out.2.2.2.1, ?_⟩
      rw [HT.out]
      rfl
    | true =>
      go_wp2_with fail
      go_ret3
      rw [← HS.out]
      refine ⟨G4.out.2.2.2.1, ?_⟩
      rw [HT.out]
      exact ⟨_, _, rfl, fun w2 ha => G4.out.1.agree (agree_mono ha G4.out.2.2.2.2), fun w2 ha => G4.out.2.1.agree (agree_mono ha G4.out.2.2.2.2)⟩
  · have HST : Hid (Calls Tryz.prog 110 #[v] w fun e w' => e = .returned (.tuple #[.slice none 0 0, .int .i64 10]) ∧ Below w.heap.size w w') := by
      have hn : ¬ Right l := fun e => hr ((rightB_iff l).2 e)
      by_cases h : l.length < 2
      · exact Strip_short v w hv h
      · exact Strip_bad v w hv (by omega) hl hn
    have HT : Hid (takeL l = none) := by
      show takeL l = _
      unfold takeL
      rw [if_neg hr]
    obtain ⟨vq, vc, rfl, -⟩ := hv.slice
    obtain ⟨S, HS⟩ : ∃ S, Hid (TakeSays l w = S) := ⟨_, rfl⟩
    rw [HS.out]
    clear hv hl hr
    generalize l.length = ln at *
    go_enter Tryz.func67, Tryz.ntmps67
    go_wp2_with fail
    refine HST.out.mono ?_
    rintro e w1 ⟨rfl, h1⟩
    have G1 := hid h1
    clear h1 HST
    go_wp2_with fail
    go_ret3
    rw [← HS.out]
    refine ⟨G1.out, ?_⟩
    rw [HT.out]
    trivial
end Go.Proofs.YtfjdaafckiefdaaGreatDoor.S15
