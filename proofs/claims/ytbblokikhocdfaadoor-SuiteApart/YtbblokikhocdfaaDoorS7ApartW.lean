/- SuiteApart, walked. -/
import Derived.Test.YtbblokikhocdfaaDoorS7ApartV
namespace Go.Proofs.YtbblokikhocdfaaDoor.S7
open Go.RowKit
set_option maxHeartbeats 2000000 in
set_option maxRecDepth 10000 in
theorem apart_any (la lb lk ll : List Nat) (a b k l : Option Addr) (n ca m' cb r ck s' cl : Nat) (w : World) (hA : Src w (.slice a n ca) la) (hB : Src w (.slice b m' cb) lb) (hK : Src w (.slice k r ck) lk) (hL : Src w (.slice l s' cl) ll)
    (hal : la.length = n) (hbl : lb.length = m') (hn : n ≤ 100) (hm : m' ≤ 100) (hr : r ≤ 100) (hs : s' ≤ 100) :
    Calls Tryd.prog 5 #[.slice a n ca, .slice b m' cb, .slice k r ck, .slice l s' cl] w fun e w' => e = .returned (.bool true) ∧ Below w.heap.size w w' := by
  have HA0 : Hid (Old w.heap.size w (.slice a n ca) la) := Old.of hA
  have HB0 : Hid (Old w.heap.size w (.slice b m' cb) lb) := Old.of hB
  have HK0 : Hid (Old w.heap.size w (.slice k r ck) lk) := Old.of hK
  have HL0 : Hid (Old w.heap.size w (.slice l s' cl) ll) := Old.of hL
  have HAL : Hid (la.length = n ∧ n ≤ 100) := ⟨hal, hn⟩
  have HBL : Hid (lb.length = m' ∧ m' ≤ 100) := ⟨hbl, hm⟩
  have n1 : ¬ (100 : Int) < (n : Int) := by omega
  have n2 : ¬ (100 : Int) < (m' : Int) := by omega
  have n3 : ¬ (100 : Int) < (r : Int) := by omega
  have n4 : ¬ (100 : Int) < (s' : Int) := by omega
  clear hA hB hK hL hal hbl hn hm hr hs
  go_enter Tryd.func5, Tryd.ntmps5
  go_wp2_with fail
  refine (anchor_any w).mono ?_
  rintro e w1 ⟨rfl, hb1⟩
  have HB1 : Hid (Below w.heap.size w w1) := hb1
  clear hb1
  go_wp2_with fail
  refine (Signs_new w1).mono ?_
  rintro e w2 ⟨p, q, m, x, rfl, hs2, hb2, hp2⟩
  have HS2 : Hid (SuIs w2 p q m x []) := hs2
  have HP : Hid (∀ y ∈ [p, m], w.heap.size ≤ y) := all_two (Nat.le_trans HB1.out.size hp2.1) (Nat.le_trans HB1.out.size hp2.2.2.1)
  have HB2 : Hid (Below w.heap.size w w2) := HB1.out.trans (hb2.mono HB1.out.size)
  have HBS2 : Hid (∀ y ∈ [p, m], y < w2.heap.size) := all_two hs2.lt.1 hs2.lt.2.2.1
  obtain ⟨B, hB⟩ : ∃ B, B = w2.heap.size := ⟨_, rfl⟩
  have HBB : Hid (∀ y ∈ [p, m], y < B) := by rw [hB]; exact HBS2.out
  have HZ2 : Hid (B ≤ w2.heap.size) := by show _ ≤ _; omega
  have HKEEP : Hid (∀ u u', Below w.heap.size w u → Only [p, m] u u' → Below w.heap.size w u') := fun u u' h1 h2 => h1.trans (h2.below h1.size HP.out)
  clear hs2 hb2 hp2 HB1 hB
  obtain ⟨L1, hL1⟩ : ∃ L, L = Su.add [] 72 [] la := ⟨_, rfl⟩
  obtain ⟨L2, hL2⟩ : ∃ L, L = Su.add L1 72 [] lb := ⟨_, rfl⟩
  obtain ⟨L3, hL3⟩ : ∃ L, L = Su.add L2 77 lk la := ⟨_, rfl⟩
  obtain ⟨L4, hL4⟩ : ∃ L, L = Su.add L3 77 ll lb := ⟨_, rfl⟩
  have HLN : Hid (L1.length ≤ 1 ∧ L2.length ≤ 2 ∧ L3.length ≤ 3 ∧ L4.length ≤ 4) := by
    have h1 := (Su.add_length [] 72 [] la).2
    have h2 := (Su.add_length L1 72 [] lb).2
    have h3 := (Su.add_length L2 77 lk la).2
    have h4 := (Su.add_length L3 77 ll lb).2
    rw [← hL1] at h1
    rw [← hL2] at h2
    rw [← hL3] at h3
    rw [← hL4] at h4
    simp at h1
    show _ ∧ _
    omega
  obtain ⟨x1, hx1⟩ : ∃ i, i = Su.num [] 72 [] la := ⟨_, rfl⟩
  obtain ⟨x2, hx2⟩ : ∃ i, i = Su.num L1 72 [] lb := ⟨_, rfl⟩
  obtain ⟨x3, hx3⟩ : ∃ i, i = Su.num L2 77 lk la := ⟨_, rfl⟩
  obtain ⟨x4, hx4⟩ : ∃ i, i = Su.num L3 77 ll lb := ⟨_, rfl⟩
  have HC1 : Hid (∀ u g, Only [p, m] w2 u → SuIs u p q m x [] → u.cell? ⟨g, 0, none⟩ = some (.slice a n ca) → Calls Tryd.prog 13 #[.pointer (some ⟨p, 0, none⟩), .slice (some ⟨g, 0, none⟩) 1 1] u fun e w' => ∃ v, e = .returned v ∧ Only [p, m] u w' ∧ SuIs w' p q m x L1 ∧ OwnV B (Su.sign 72 x1) v w') := fun u g ho h hc => by
    rw [hL1, hx1]
    exact Sum_V la _ g p q m x B [] u h hc (HA0.out.keep (HKEEP.out w2 u HB2.out ho)).1 (by have := HAL.out; omega) (by decide) (Nat.le_trans HZ2.out ho.size)
  have HC2 : Hid (∀ u g, Only [p, m] w2 u → SuIs u p q m x L1 → u.cell? ⟨g, 0, none⟩ = some (.slice b m' cb) → Calls Tryd.prog 13 #[.pointer (some ⟨p, 0, none⟩), .slice (some ⟨g, 0, none⟩) 1 1] u fun e w' => ∃ v, e = .returned v ∧ Only [p, m] u w' ∧ SuIs w' p q m x L2 ∧ OwnV B (Su.sign 72 x2) v w') := fun u g ho h hc => by
    rw [hL2, hx2]
    exact Sum_V lb _ g p q m x B L1 u h hc (HB0.out.keep (HKEEP.out w2 u HB2.out ho)).1 (by have := HBL.out; omega) (by have := HLN.out; omega) (Nat.le_trans HZ2.out ho.size)
  have HFACT : Hid ((x1 = x2 ↔ la = lb) ∧ (x3 = x4 ↔ lk = ll ∧ la = lb) ∧ x1 < 100 ∧ x2 < 100 ∧ x3 < 100 ∧ x4 < 100) := by
    have f1 := Su.num_two [] 72 [] la [] lb
    have f2 := Su.num_two L2 77 lk la ll lb
    rw [← hL1, ← hx1, ← hx2] at f1
    rw [← hL3, ← hx3, ← hx4] at f2
    have g1 := (Su.num_le [] 72 [] la).2
    have g2 := (Su.num_le L1 72 [] lb).2
    have g3 := (Su.num_le L2 77 lk la).2
    have g4 := (Su.num_le L3 77 ll lb).2
    rw [← hx1] at g1
    rw [← hx2] at g2
    rw [← hx3] at g3
    rw [← hx4] at g4
    have := HLN.out
    simp at g1
    refine ⟨⟨fun h => (f1.1 h).2, fun h => f1.2 ⟨rfl, h⟩⟩, f2, ?_, ?_, ?_, ?_⟩ <;> omega
  have H3 : Hid (L3 = Su.add L2 77 lk la ∧ x3 = Su.num L2 77 lk la) := ⟨hL3, hx3⟩
  have H4 : Hid (L4 = Su.add L3 77 ll lb ∧ x4 = Su.num L3 77 ll lb) := ⟨hL4, hx4⟩
  clear hL1 hL2 hL3 hL4 hx1 hx2 hx3 hx4
  go_wp2_with fail
  refine wp_region_st (ap6 B p m 72 x1 x2 (.slice a n ca) (.slice b m' cb)) (fun u u' => Only [p, m] u u') (SeqS [3, 8] (fun k u => SuIs u p q m x (match k with | 0 => [] | 1 => L1 | _ => L2))) (by kernel_rfl) (only_drew _ _) (only_trans _) (ap6_kept _ _ _ _ _ _ _ _ HBB.out) (by kernel_rfl) (SeqS.start (HS2.out.below (below_drewN 1 _ _))) ?_ ?_
  · intro i o a' w' f hi inv hS hfi hfw hpre
    have ho : Only [p, m] w2 w' := inv.grow
    have hlt : i < 12 := (Array.getElem?_eq_some_iff.1 hi).1
    obtain rfl|rfl|rfl|rfl|rfl|rfl|rfl|rfl|rfl|rfl|rfl|rfl : i = 0 ∨ i = 1 ∨ i = 2 ∨ i = 3 ∨ i = 4 ∨ i = 5 ∨ i = 6 ∨ i = 7 ∨ i = 8 ∨ i = 9 ∨ i = 10 ∨ i = 11 := by omega
    · obtain rfl := Option.some.inj hi
      exact sq_value _ rfl rfl rfl (Below.refl _ _) (by decide) hS (fun k u u' hb h => SuIs.below h hb) (by show a'.tmps.getD 9 undef = _; rw [inv.old 9 (notDst_spec (by kernel_rfl))]; rfl)
    · obtain rfl := Option.some.inj hi
      exact sq_value _ rfl rfl rfl (Below.refl _ _) (by decide) hS (fun k u u' hb h => SuIs.below h hb) (by show a'.tmps.getD 0 undef = _; rw [inv.old 0 (notDst_spec (by kernel_rfl))]; rfl)
    · obtain rfl := Option.some.inj hi
      have h0 : a'.tmps.getD 38 undef = _ := pre_of hpre 1 38 (by kernel_rfl) (by kernel_rfl)
      exact sq_value _ rfl rfl (part_run 38 _ rfl ⟨_, _, _, rfl⟩ h0) (below_alloc _ _) (by decide) hS (fun k u u' hb h => SuIs.below h hb) (part_v (fun y hy => Nat.lt_of_lt_of_le (HBS2.out y hy) ho.size))
    · obtain rfl := Option.some.inj hi
      have h0 : a'.tmps.getD 37 undef = _ := pre_of hpre 0 37 (by kernel_rfl) (by kernel_rfl)
      have h1 := pre_of hpre 2 39 (by kernel_rfl) (by kernel_rfl)
      refine sq_call (k := 0) 13 #[a'.tmps.getD 37 undef, a'.tmps.getD 39 undef] rfl rfl (by kernel_rfl) rfl (by decide) hfi (fun c h _ => absurd rfl h) hS (fun hR => ?_)
      obtain ⟨g, hg, hc, _⟩ := h1
      rw [h0, hg]
      exact HC1.out w' g ho hR hc
    · obtain rfl := Option.some.inj hi
      have h0 := pre_of hpre 3 40 (by kernel_rfl) (by kernel_rfl)
      exact sq_value _ rfl rfl (conv_run 40 _ rfl (Src.own (Su.sign_lt (by decide) _) h0)) (Below.refl _ _) (by decide) hS (fun k u u' hb h => SuIs.below h hb) rfl
    · obtain rfl := Option.some.inj hi
      exact sq_value _ rfl rfl rfl (Below.refl _ _) (by decide) hS (fun k u u' hb h => SuIs.below h hb) (by show a'.tmps.getD 9 undef = _; rw [inv.old 9 (notDst_spec (by kernel_rfl))]; rfl)
    · obtain rfl := Option.some.inj hi
      exact sq_value _ rfl rfl rfl (Below.refl _ _) (by decide) hS (fun k u u' hb h => SuIs.below h hb) (by show a'.tmps.getD 1 undef = _; rw [inv.old 1 (notDst_spec (by kernel_rfl))]; rfl)
    · obtain rfl := Option.some.inj hi
      have h0 : a'.tmps.getD 43 undef = _ := pre_of hpre 6 43 (by kernel_rfl) (by kernel_rfl)
      exact sq_value _ rfl rfl (part_run 43 _ rfl ⟨_, _, _, rfl⟩ h0) (below_alloc _ _) (by decide) hS (fun k u u' hb h => SuIs.below h hb) (part_v (fun y hy => Nat.lt_of_lt_of_le (HBS2.out y hy) ho.size))
    · obtain rfl := Option.some.inj hi
      have h0 : a'.tmps.getD 42 undef = _ := pre_of hpre 5 42 (by kernel_rfl) (by kernel_rfl)
      have h1 := pre_of hpre 7 44 (by kernel_rfl) (by kernel_rfl)
      refine sq_call (k := 1) 13 #[a'.tmps.getD 42 undef, a'.tmps.getD 44 undef] rfl rfl (by kernel_rfl) rfl (by decide) hfi (fun c _ hc => by cases hc; exact been_of hfw 3 (by kernel_rfl)) hS (fun hR => ?_)
      obtain ⟨g, hg, hc, _⟩ := h1
      rw [h0, hg]
      exact HC2.out w' g ho hR hc
    · obtain rfl := Option.some.inj hi
      have h0 := pre_of hpre 8 45 (by kernel_rfl) (by kernel_rfl)
      exact sq_value _ rfl rfl (conv_run 45 _ rfl (Src.own (Su.sign_lt (by decide) _) h0)) (Below.refl _ _) (by decide) hS (fun k u u' hb h => SuIs.below h hb) rfl
    · obtain rfl := Option.some.inj hi
      have h0 := pre_of hpre 4 41 (by kernel_rfl) (by kernel_rfl)
      exact sq_value _ rfl rfl rfl (Below.refl _ _) (by decide) hS (fun k u u' hb h => SuIs.below h hb) h0
    · obtain rfl := Option.some.inj hi
      have h0 := pre_of hpre 9 46 (by kernel_rfl) (by kernel_rfl)
      exact sq_value _ rfl rfl rfl (Below.refl _ _) (by decide) hS (fun k u u' hb h => SuIs.below h hb) h0
  · intro a' w3 f inv hS hall hd
    have hv1 := hd 10 10 (by kernel_rfl)
    have hv2 := hd 11 11 (by kernel_rfl)
    have ho : Only [p, m] w2 w3 := inv.grow
    have hdf : a'.defers = [] := inv.defers
    have hsz : a'.tmps.size = 122 := inv.size
    have e := frame122_6 hsz (fun t ht => inv.old t (dstsIn_spec (ts := [10, 11, 37, 38, 39, 40, 41, 42, 43, 44, 45, 46]) (by kernel_rfl) t ht))
    have hR := hS.done (fun c hc => hall c (show c < 12 by simp at hc; omega))
    clear inv hd hsz hall hS
    obtain ⟨tmps, defers⟩ := a'
    obtain rfl : defers = [] := hdf
    replace e : tmps = _ := e
    replace hv1 : (tmps.getD 10 undef) = .string (strB (Su.sign 72 x1)) := hv1
    replace hv2 : (tmps.getD 11 undef) = .string (strB (Su.sign 72 x2)) := hv2
    generalize tmps.getD 10 undef = x10 at *
    generalize tmps.getD 11 undef = x11 at *
    generalize tmps.getD 37 undef = x37 at *
    generalize tmps.getD 38 undef = x38 at *
    generalize tmps.getD 39 undef = x39 at *
    generalize tmps.getD 40 undef = x40 at *
    generalize tmps.getD 41 undef = x41 at *
    generalize tmps.getD 42 undef = x42 at *
    generalize tmps.getD 43 undef = x43 at *
    generalize tmps.getD 44 undef = x44 at *
    generalize tmps.getD 45 undef = x45 at *
    generalize tmps.getD 46 undef = x46 at *
    simp only [Array.getD_eq_getD_getElem?, List.getElem?_toArray, List.getElem?_cons_succ, List.getElem?_cons_zero, Option.getD_some] at e
    subst e
    subst hv1 hv2
    have HS3 : Hid (SuIs w3 p q m x L2) := hR
    have HB3 : Hid (Below w.heap.size w w3) := HKEEP.out w2 w3 HB2.out ho
    have HZ3 : Hid (B ≤ w3.heap.size) := Nat.le_trans HZ2.out ho.size
    have HBS3 : Hid (∀ y ∈ [p, m], y < w3.heap.size) := fun y hy => Nat.lt_of_lt_of_le (HBS2.out y hy) ho.size
    clear hR ho HC1 HC2
    have HC1 : Hid (∀ u g, Only [p, m] w3 u → SuIs u p q m x L2 → u.cell? ⟨g, 0, none⟩ = some (.slice a n ca) → Calls Tryd.prog 15 #[.pointer (some ⟨p, 0, none⟩), .slice k r ck, .slice (some ⟨g, 0, none⟩) 1 1] u fun e w' => ∃ v, e = .returned v ∧ Only [p, m] u w' ∧ SuIs w' p q m x L3 ∧ OwnV B (Su.sign 77 x3) v w') := fun u g ho h hc => by
      have hb := HKEEP.out w3 u HB3.out ho
      rw [H3.out.1, H3.out.2]
      exact Code_V lk la _ _ g p q m x B L2 u h (HK0.out.keep hb).1 hc (HA0.out.keep hb).1 (by have := HAL.out; omega) (by have := HLN.out; omega) (Nat.le_trans HZ3.out ho.size)
    have HC2 : Hid (∀ u g, Only [p, m] w3 u → SuIs u p q m x L3 → u.cell? ⟨g, 0, none⟩ = some (.slice b m' cb) → Calls Tryd.prog 15 #[.pointer (some ⟨p, 0, none⟩), .slice l s' cl, .slice (some ⟨g, 0, none⟩) 1 1] u fun e w' => ∃ v, e = .returned v ∧ Only [p, m] u w' ∧ SuIs w' p q m x L4 ∧ OwnV B (Su.sign 77 x4) v w') := fun u g ho h hc => by
      have hb := HKEEP.out w3 u HB3.out ho
      rw [H4.out.1, H4.out.2]
      exact Code_V ll lb _ _ g p q m x B L3 u h (HL0.out.keep hb).1 hc (HB0.out.keep hb).1 (by have := HBL.out; omega) (by have := HLN.out; omega) (Nat.le_trans HZ3.out ho.size)
    go_wp2_with fail
    refine wp_region_st (ap7 B p m 77 x3 x4 (.slice a n ca) (.slice b m' cb) (.slice k r ck) (.slice l s' cl)) (fun u u' => Only [p, m] u u') (SeqS [4, 10] (fun k u => SuIs u p q m x (match k with | 0 => L2 | 1 => L3 | _ => L4))) (by kernel_rfl) (only_drew _ _) (only_trans _) (ap7_kept _ _ _ _ _ _ _ _ _ _ HBB.out) (by kernel_rfl) (SeqS.start (HS3.out.below (below_drewN 1 _ _))) ?_ ?_
    · intro i o a' w' f hi inv hS hfi hfw hpre
      have ho : Only [p, m] w3 w' := inv.grow
      have hlt : i < 14 := (Array.getElem?_eq_some_iff.1 hi).1
      obtain rfl|rfl|rfl|rfl|rfl|rfl|rfl|rfl|rfl|rfl|rfl|rfl|rfl|rfl : i = 0 ∨ i = 1 ∨ i = 2 ∨ i = 3 ∨ i = 4 ∨ i = 5 ∨ i = 6 ∨ i = 7 ∨ i = 8 ∨ i = 9 ∨ i = 10 ∨ i = 11 ∨ i = 12 ∨ i = 13 := by omega
      · obtain rfl := Option.some.inj hi
        exact sq_value _ rfl rfl rfl (Below.refl _ _) (by decide) hS (fun k u u' hb h => SuIs.below h hb) (by show a'.tmps.getD 9 undef = _; rw [inv.old 9 (notDst_spec (by kernel_rfl))]; rfl)
      · obtain rfl := Option.some.inj hi
        exact sq_value _ rfl rfl rfl (Below.refl _ _) (by decide) hS (fun k u u' hb h => SuIs.below h hb) (by show a'.tmps.getD 2 undef = _; rw [inv.old 2 (notDst_spec (by kernel_rfl))]; rfl)
      · obtain rfl := Option.some.inj hi
        exact sq_value _ rfl rfl rfl (Below.refl _ _) (by decide) hS (fun k u u' hb h => SuIs.below h hb) (by show a'.tmps.getD 0 undef = _; rw [inv.old 0 (notDst_spec (by kernel_rfl))]; rfl)
      · obtain rfl := Option.some.inj hi
        have h0 : a'.tmps.getD 49 undef = _ := pre_of hpre 2 49 (by kernel_rfl) (by kernel_rfl)
        exact sq_value _ rfl rfl (part_run 49 _ rfl ⟨_, _, _, rfl⟩ h0) (below_alloc _ _) (by decide) hS (fun k u u' hb h => SuIs.below h hb) (part_v (fun y hy => Nat.lt_of_lt_of_le (HBS3.out y hy) ho.size))
      · obtain rfl := Option.some.inj hi
        have h0 : a'.tmps.getD 47 undef = _ := pre_of hpre 0 47 (by kernel_rfl) (by kernel_rfl)
        have h1 : a'.tmps.getD 48 undef = _ := pre_of hpre 1 48 (by kernel_rfl) (by kernel_rfl)
        have h2 := pre_of hpre 3 50 (by kernel_rfl) (by kernel_rfl)
        refine sq_call (k := 0) 15 #[a'.tmps.getD 47 undef, a'.tmps.getD 48 undef, a'.tmps.getD 50 undef] rfl rfl (by kernel_rfl) rfl (by decide) hfi (fun c h _ => absurd rfl h) hS (fun hR => ?_)
        obtain ⟨g, hg, hc, _⟩ := h2
        rw [h0, h1, hg]
        exact HC1.out w' g ho hR hc
      · obtain rfl := Option.some.inj hi
        have h0 := pre_of hpre 4 51 (by kernel_rfl) (by kernel_rfl)
        exact sq_value _ rfl rfl (conv_run 51 _ rfl (Src.own (Su.sign_lt (by decide) _) h0)) (Below.refl _ _) (by decide) hS (fun k u u' hb h => SuIs.below h hb) rfl
      · obtain rfl := Option.some.inj hi
        exact sq_value _ rfl rfl rfl (Below.refl _ _) (by decide) hS (fun k u u' hb h => SuIs.below h hb) (by show a'.tmps.getD 9 undef = _; rw [inv.old 9 (notDst_spec (by kernel_rfl))]; rfl)
      · obtain rfl := Option.some.inj hi
        exact sq_value _ rfl rfl rfl (Below.refl _ _) (by decide) hS (fun k u u' hb h => SuIs.below h hb) (by show a'.tmps.getD 3 undef = _; rw [inv.old 3 (notDst_spec (by kernel_rfl))]; rfl)
      · obtain rfl := Option.some.inj hi
        exact sq_value _ rfl rfl rfl (Below.refl _ _) (by decide) hS (fun k u u' hb h => SuIs.below h hb) (by show a'.tmps.getD 1 undef = _; rw [inv.old 1 (notDst_spec (by kernel_rfl))]; rfl)
      · obtain rfl := Option.some.inj hi
        have h0 : a'.tmps.getD 55 undef = _ := pre_of hpre 8 55 (by kernel_rfl) (by kernel_rfl)
        exact sq_value _ rfl rfl (part_run 55 _ rfl ⟨_, _, _, rfl⟩ h0) (below_alloc _ _) (by decide) hS (fun k u u' hb h => SuIs.below h hb) (part_v (fun y hy => Nat.lt_of_lt_of_le (HBS3.out y hy) ho.size))
      · obtain rfl := Option.some.inj hi
        have h0 : a'.tmps.getD 53 undef = _ := pre_of hpre 6 53 (by kernel_rfl) (by kernel_rfl)
        have h1 : a'.tmps.getD 54 undef = _ := pre_of hpre 7 54 (by kernel_rfl) (by kernel_rfl)
        have h2 := pre_of hpre 9 56 (by kernel_rfl) (by kernel_rfl)
        refine sq_call (k := 1) 15 #[a'.tmps.getD 53 undef, a'.tmps.getD 54 undef, a'.tmps.getD 56 undef] rfl rfl (by kernel_rfl) rfl (by decide) hfi (fun c _ hc => by cases hc; exact been_of hfw 4 (by kernel_rfl)) hS (fun hR => ?_)
        obtain ⟨g, hg, hc, _⟩ := h2
        rw [h0, h1, hg]
        exact HC2.out w' g ho hR hc
      · obtain rfl := Option.some.inj hi
        have h0 := pre_of hpre 10 57 (by kernel_rfl) (by kernel_rfl)
        exact sq_value _ rfl rfl (conv_run 57 _ rfl (Src.own (Su.sign_lt (by decide) _) h0)) (Below.refl _ _) (by decide) hS (fun k u u' hb h => SuIs.below h hb) rfl
      · obtain rfl := Option.some.inj hi
        have h0 := pre_of hpre 5 52 (by kernel_rfl) (by kernel_rfl)
        exact sq_value _ rfl rfl rfl (Below.refl _ _) (by decide) hS (fun k u u' hb h => SuIs.below h hb) h0
      · obtain rfl := Option.some.inj hi
        have h0 := pre_of hpre 11 58 (by kernel_rfl) (by kernel_rfl)
        exact sq_value _ rfl rfl rfl (Below.refl _ _) (by decide) hS (fun k u u' hb h => SuIs.below h hb) h0
    · intro a' w4 f inv hS hall hd
      have hv1 := hd 12 12 (by kernel_rfl)
      have hv2 := hd 13 13 (by kernel_rfl)
      have ho : Only [p, m] w3 w4 := inv.grow
      have hdf : a'.defers = [] := inv.defers
      have hsz : a'.tmps.size = 122 := inv.size
      have e := frame122_7 hsz (fun t ht => inv.old t (dstsIn_spec (ts := [12, 13, 47, 48, 49, 50, 51, 52, 53, 54, 55, 56, 57, 58]) (by kernel_rfl) t ht))
      have hR := hS.done (fun c hc => hall c (show c < 14 by simp at hc; omega))
      clear inv hd hsz hall hS
      obtain ⟨tmps, defers⟩ := a'
      obtain rfl : defers = [] := hdf
      replace e : tmps = _ := e
      replace hv1 : (tmps.getD 12 undef) = .string (strB (Su.sign 77 x3)) := hv1
      replace hv2 : (tmps.getD 13 undef) = .string (strB (Su.sign 77 x4)) := hv2
      generalize tmps.getD 12 undef = x12 at *
      generalize tmps.getD 13 undef = x13 at *
      generalize tmps.getD 47 undef = x47 at *
      generalize tmps.getD 48 undef = x48 at *
      generalize tmps.getD 49 undef = x49 at *
      generalize tmps.getD 50 undef = x50 at *
      generalize tmps.getD 51 undef = x51 at *
      generalize tmps.getD 52 undef = x52 at *
      generalize tmps.getD 53 undef = x53 at *
      generalize tmps.getD 54 undef = x54 at *
      generalize tmps.getD 55 undef = x55 at *
      generalize tmps.getD 56 undef = x56 at *
      generalize tmps.getD 57 undef = x57 at *
      generalize tmps.getD 58 undef = x58 at *
      simp only [Array.getD_eq_getD_getElem?, List.getElem?_toArray, List.getElem?_cons_succ, List.getElem?_cons_zero, Option.getD_some] at e
      subst e
      subst hv1 hv2
      have HS4 : Hid (SuIs w4 p q m x L4) := hR
      have HB4 : Hid (Below w.heap.size w w4) := HKEEP.out w3 w4 HB3.out ho
      have HZ4 : Hid (B ≤ w4.heap.size) := Nat.le_trans HZ3.out ho.size
      have HBS4 : Hid (∀ y ∈ [p], y < w4.heap.size) := all_one (Nat.lt_of_lt_of_le (HBS3.out p (by simp)) ho.size)
      have HBP : Hid (∀ y ∈ [p], y < B) := all_one (HBB.out p (by simp))
      have HPP : Hid (∀ y ∈ [p], w.heap.size ≤ y) := all_one (HP.out p (by simp))
      clear hR ho HC1 HC2
      have HC1 : Hid (∀ u, Only [p] w4 u → SuIs u p q m x L4 → Calls Tryd.prog 17 #[.pointer (some ⟨p, 0, none⟩)] u fun e w' => ∃ v, e = .returned v ∧ Only [p] u w' ∧ SuIs w' p q m x (L4 ++ [(75, [], [], [], [])]) ∧ OwnV B (Su.sign 75 (L4.length + 1)) v w') := fun u ho h =>
        Key_V p q m x B L4 u h (by have := HLN.out; omega) (Nat.le_trans HZ4.out ho.size)
      have HC2 : Hid (∀ u, Only [p] w4 u → SuIs u p q m x (L4 ++ [(75, [], [], [], [])]) → Calls Tryd.prog 17 #[.pointer (some ⟨p, 0, none⟩)] u fun e w' => ∃ v, e = .returned v ∧ Only [p] u w' ∧ SuIs w' p q m x (L4 ++ [(75, [], [], [], []), (75, [], [], [], [])]) ∧ OwnV B (Su.sign 75 (L4.length + 2)) v w') := fun u ho h => by
        have := Key_V p q m x B (L4 ++ [(75, [], [], [], [])]) u h (by have := HLN.out; simp; omega) (Nat.le_trans HZ4.out ho.size)
        rw [List.append_assoc, List.length_append] at this
        exact this
      go_wp2_with fail
      refine wp_region_st (ap8 B p 75 (L4.length + 1) (L4.length + 2)) (fun u u' => Only [p] u u') (SeqS [1, 4] (fun k u => SuIs u p q m x (match k with | 0 => L4 | 1 => L4 ++ [(75, [], [], [], [])] | _ => L4 ++ [(75, [], [], [], []), (75, [], [], [], [])]))) (by kernel_rfl) (only_drew _ _) (only_trans _) (ap8_kept _ _ _ _ _ HBP.out) (by kernel_rfl) (SeqS.start (HS4.out.below (below_drewN 1 _ _))) ?_ ?_
      · intro i o a' w' f hi inv hS hfi hfw hpre
        have ho : Only [p] w4 w' := inv.grow
        have hlt : i < 8 := (Array.getElem?_eq_some_iff.1 hi).1
        obtain rfl|rfl|rfl|rfl|rfl|rfl|rfl|rfl : i = 0 ∨ i = 1 ∨ i = 2 ∨ i = 3 ∨ i = 4 ∨ i = 5 ∨ i = 6 ∨ i = 7 := by omega
        · obtain rfl := Option.some.inj hi
          exact sq_value _ rfl rfl rfl (Below.refl _ _) (by decide) hS (fun k u u' hb h => SuIs.below h hb) (by show a'.tmps.getD 9 undef = _; rw [inv.old 9 (notDst_spec (by kernel_rfl))]; rfl)
        · obtain rfl := Option.some.inj hi
          have h0 : a'.tmps.getD 59 undef = _ := pre_of hpre 0 59 (by kernel_rfl) (by kernel_rfl)
          refine sq_call (k := 0) 17 #[a'.tmps.getD 59 undef] rfl rfl (by kernel_rfl) rfl (by decide) hfi (fun c h _ => absurd rfl h) hS (fun hR => ?_)
          rw [h0]
          exact HC1.out w' ho hR
        · obtain rfl := Option.some.inj hi
          have h0 := pre_of hpre 1 60 (by kernel_rfl) (by kernel_rfl)
          exact sq_value _ rfl rfl (conv_run 60 _ rfl (Src.own (Su.sign_lt (by decide) _) h0)) (Below.refl _ _) (by decide) hS (fun k u u' hb h => SuIs.below h hb) rfl
        · obtain rfl := Option.some.inj hi
          exact sq_value _ rfl rfl rfl (Below.refl _ _) (by decide) hS (fun k u u' hb h => SuIs.below h hb) (by show a'.tmps.getD 9 undef = _; rw [inv.old 9 (notDst_spec (by kernel_rfl))]; rfl)
        · obtain rfl := Option.some.inj hi
          have h0 : a'.tmps.getD 62 undef = _ := pre_of hpre 3 62 (by kernel_rfl) (by kernel_rfl)
          refine sq_call (k := 1) 17 #[a'.tmps.getD 62 undef] rfl rfl (by kernel_rfl) rfl (by decide) hfi (fun c _ hc => by cases hc; exact been_of hfw 1 (by kernel_rfl)) hS (fun hR => ?_)
          rw [h0]
          exact HC2.out w' ho hR
        · obtain rfl := Option.some.inj hi
          have h0 := pre_of hpre 4 63 (by kernel_rfl) (by kernel_rfl)
          exact sq_value _ rfl rfl (conv_run 63 _ rfl (Src.own (Su.sign_lt (by decide) _) h0)) (Below.refl _ _) (by decide) hS (fun k u u' hb h => SuIs.below h hb) rfl
        · obtain rfl := Option.some.inj hi
          have h0 := pre_of hpre 2 61 (by kernel_rfl) (by kernel_rfl)
          exact sq_value _ rfl rfl rfl (Below.refl _ _) (by decide) hS (fun k u u' hb h => SuIs.below h hb) h0
        · obtain rfl := Option.some.inj hi
          have h0 := pre_of hpre 5 64 (by kernel_rfl) (by kernel_rfl)
          exact sq_value _ rfl rfl rfl (Below.refl _ _) (by decide) hS (fun k u u' hb h => SuIs.below h hb) h0
      · intro a' w5 f inv hS hall hd
        have hv1 := hd 6 14 (by kernel_rfl)
        have hv2 := hd 7 15 (by kernel_rfl)
        have ho : Only [p] w4 w5 := inv.grow
        have hdf : a'.defers = [] := inv.defers
        have hsz : a'.tmps.size = 122 := inv.size
        have e := frame122_8 hsz (fun t ht => inv.old t (dstsIn_spec (ts := [14, 15, 59, 60, 61, 62, 63, 64]) (by kernel_rfl) t ht))
        have hR := hS.done (fun c hc => hall c (show c < 8 by simp at hc; omega))
        clear inv hd hsz hall hS
        obtain ⟨tmps, defers⟩ := a'
        obtain rfl : defers = [] := hdf
        replace e : tmps = _ := e
        replace hv1 : (tmps.getD 14 undef) = .string (strB (Su.sign 75 (L4.length + 1))) := hv1
        replace hv2 : (tmps.getD 15 undef) = .string (strB (Su.sign 75 (L4.length + 2))) := hv2
        generalize tmps.getD 14 undef = x14 at *
        generalize tmps.getD 15 undef = x15 at *
        generalize tmps.getD 59 undef = x59 at *
        generalize tmps.getD 60 undef = x60 at *
        generalize tmps.getD 61 undef = x61 at *
        generalize tmps.getD 62 undef = x62 at *
        generalize tmps.getD 63 undef = x63 at *
        generalize tmps.getD 64 undef = x64 at *
        simp only [Array.getD_eq_getD_getElem?, List.getElem?_toArray, List.getElem?_cons_succ, List.getElem?_cons_zero, Option.getD_some] at e
        subst e
        subst hv1 hv2
        have HB5 : Hid (Below w.heap.size w w5) := HB4.out.trans (ho.below HB4.out.size HPP.out)
        have hca := conv_src (HA0.out.keep HB5.out).1
        have hcb := conv_src (HB0.out.keep HB5.out).1
        have hck := conv_src (HK0.out.keep HB5.out).1
        have hcl := conv_src (HL0.out.keep HB5.out).1
        have hF := HFACT.out
        have sg : ∀ i, ∀ y ∈ Su.sign 72 i, y < 256 := Su.sign_lt (by decide)
        have sc : ∀ i, ∀ y ∈ Su.sign 77 i, y < 256 := Su.sign_lt (by decide)
        have sk : ∀ i, ∀ y ∈ Su.sign 75 i, y < 256 := Su.sign_lt (by decide)
        have b1 : ((strB (Su.sign 72 x1)).toList == (strB (Su.sign 72 x2)).toList) = decide (la = lb) := by
          rw [strB_beqL (sg _) (sg _), decide_eq_decide, Su.sign_inj (by omega) (by omega)]
          exact ⟨fun h => hF.1.1 h.2, fun h => ⟨rfl, hF.1.2 h⟩⟩
        have b2 := strB_beqL HA0.out.1.small HB0.out.1.small
        have b3 : ((strB (Su.sign 77 x3)).toList == (strB (Su.sign 77 x4)).toList) = decide (lk = ll ∧ la = lb) := by
          rw [strB_beqL (sc _) (sc _), decide_eq_decide, Su.sign_inj (by omega) (by omega)]
          exact ⟨fun h => hF.2.1.1 h.2, fun h => ⟨rfl, hF.2.1.2 h⟩⟩
        have b4 := strB_beqL HK0.out.1.small HL0.out.1.small
        have b5 : ((strB (Su.sign 72 x1)).toList == (strB (Su.sign 77 x3)).toList) = false := by
          rw [strB_beqL (sg _) (sc _), decide_eq_false_iff_not, Su.sign_inj (by omega) (by omega)]; omega
        have b6 : ((strB (Su.sign 72 x1)).toList == (strB (Su.sign 77 x4)).toList) = false := by
          rw [strB_beqL (sg _) (sc _), decide_eq_false_iff_not, Su.sign_inj (by omega) (by omega)]; omega
        have b7 : ((strB (Su.sign 72 x2)).toList == (strB (Su.sign 77 x3)).toList) = false := by
          rw [strB_beqL (sg _) (sc _), decide_eq_false_iff_not, Su.sign_inj (by omega) (by omega)]; omega
        have hl4 := HLN.out
        have b8 : ((strB (Su.sign 75 (L4.length + 1))).toList == (strB (Su.sign 75 (L4.length + 2))).toList) = false := by
          rw [strB_beqL (sk _) (sk _), decide_eq_false_iff_not, Su.sign_inj (by omega) (by omega)]; omega
        have b9 : ((strB (Su.sign 75 (L4.length + 1))).toList == (strB (Su.sign 72 x1)).toList) = false := by
          rw [strB_beqL (sk _) (sg _), decide_eq_false_iff_not, Su.sign_inj (by omega) (by omega)]; omega
        have b10 : ((strB (Su.sign 75 (L4.length + 1))).toList == (strB (Su.sign 77 x3)).toList) = false := by
          rw [strB_beqL (sk _) (sc _), decide_eq_false_iff_not, Su.sign_inj (by omega) (by omega)]; omega
        clear hF sg sc sk hl4 HC1 HC2 hR ho
        generalize strB (Su.sign 72 x1) = s1 at *
        generalize strB (Su.sign 72 x2) = s2 at *
        generalize strB (Su.sign 77 x3) = s3 at *
        generalize strB (Su.sign 77 x4) = s4 at *
        generalize strB (Su.sign 75 (L4.length + 1)) = s5 at *
        generalize strB (Su.sign 75 (L4.length + 2)) = s6 at *
        by_cases e1 : la = lb
        · by_cases e2 : lk = ll
          · rw [decide_eq_true e1] at b1 b2
            rw [decide_eq_true e2] at b4
            rw [decide_eq_true ⟨e2, e1⟩] at b3
            clear e1 e2
            go_wp2_with fail
            go_ret
            exact ⟨rfl, HB5.out⟩
          · rw [decide_eq_true e1] at b1 b2
            rw [decide_eq_false e2] at b4
            rw [decide_eq_false (fun e => e2 e.1)] at b3
            clear e1 e2
            go_wp2_with fail
            go_ret
            exact ⟨rfl, HB5.out⟩
        · rw [decide_eq_false e1] at b1 b2
          rw [decide_eq_false (fun e => e1 e.2)] at b3
          clear e1 b4
          go_wp2_with fail
          go_ret
          exact ⟨rfl, HB5.out⟩
end Go.Proofs.YtbblokikhocdfaaDoor.S7
