/- The document's Read: its contract. -/
import Derived.Test.YtiihdpkpgcmioaaE9Rst5
import Derived.Test.YtiihdpkpgcmioaaE9RRA
namespace Go.Proofs.Ytiihdpkpgcmioaa.E9
open Go.RowKit C8
theorem xN_bad {lo hi : Int} {s : Sta} (h : s.2 = true) : (rN lo hi s).2.2 = true := by
  unfold rN
  split
  · rfl
  · exact h
theorem xT_bad {lo hi : Int} {s : Sta} (h : s.2 = true) : (rT lo hi s).2.2 = true := by
  unfold rT
  split
  · rfl
  · exact h
theorem xW_bad {lo hi : Int} {s : Sta} {j : Nat} (h : (rW lo hi j s).2.2 = true) : ∀ n, (rW lo hi (j + n) s).2.2 = true
  | 0 => h
  | n + 1 => by
    rw [← Nat.add_assoc, rW]
    exact xT_bad (xN_bad (xW_bad h n))
theorem rN_cnt (s : Sta) : ∃ cn : Nat, cn ≤ 16 ∧ (rN 0 16 s).1 = (cn : Int) := by
  unfold rN
  split
  · exact ⟨0, by omega, rfl⟩
  · rename_i h
    exact ⟨Cd.val (s.1.take 6), by omega, rfl⟩
/-- What rest leaves, of any kind. -/
def RstAny (w0 w : World) (pe pr : Nat) (sv : Value) (l : List Nat) (k a b : Int) (s : Sta) (w' : World) : Prop :=
  ∃ E s', RstSays w0 w pe pr sv l E s' w' ∧ ((E, s') = tl true k a b s ∨ (s'.2 = true ∧ (tl true k a b s).2.2 = true))
theorem rest_any (w0 w : World) (pe pr : Nat) (sv : Value) (l : List Nat) (k a b : Int) (s : Sta) (G0 : Hid (Rg w0 w w pe pr sv l s #[.int .i64 k, .int .i64 a, .int .i64 b, .slice none 0 0, .slice none 0 0, .int .i64 0, .int .i64 0, .int .i64 0, .slice none 0 0])) :
    Calls Try.prog 38 #[.pointer (some ⟨pe, 0, none⟩), .pointer (some ⟨pr, 0, none⟩)] w fun e w' => e = .returned (.tuple #[]) ∧ Hid (RstAny w0 w pe pr sv l k a b s w') := by
  by_cases k1 : k = 1
  · subst k1
    refine (rk1 w0 w pe pr sv l a b s G0 (rT 1 64 s).1 (rT 1 64 s).2 rfl (rT 0 512 (rT 1 64 s).2).1 (rT 0 512 (rT 1 64 s).2).2 rfl).mono ?_
    rintro e w' ⟨rfl, h⟩
    exact ⟨rfl, _, _, h, .inl (by unfold tl; rw [if_pos rfl]; simp [lo1, hiT, hiV])⟩
  · by_cases k2 : k = 2
    · subst k2
      refine (rk2 w0 w pe pr sv l a b s G0 (rT 1 64 s).1 (rT 1 64 s).2 rfl).mono ?_
      rintro e w' ⟨rfl, h⟩
      exact ⟨rfl, _, _, h, .inl (by unfold tl; rw [if_neg k1, if_pos rfl]; simp [lo1, hiT])⟩
    · by_cases k3 : k = 3
      · subst k3
        refine (rk3 w0 w pe pr sv l a b s G0 (rN 1 16 s).1 (rN 1 16 s).2 rfl (rN 1 7 (rN 1 16 s).2).1 (rN 1 7 (rN 1 16 s).2).2 rfl).mono ?_
        rintro e w' ⟨rfl, h⟩
        exact ⟨rfl, _, _, h, .inl (by unfold tl; rw [if_neg k1, if_neg k2, if_pos rfl]; simp [lo1, hiR])⟩
      · by_cases k4 : k = 4
        · subst k4
          refine (rk4 w0 w pe pr sv l a b s G0 (rN 1 16 s).1 (rN 1 16 s).2 rfl).mono ?_
          rintro e w' ⟨rfl, h⟩
          exact ⟨rfl, _, _, h, .inl (by unfold tl; rw [if_neg k1, if_neg k2, if_neg k3, if_pos rfl])⟩
        · by_cases k5 : k = 5
          · subst k5
            obtain ⟨cn, hcn, hc⟩ := rN_cnt (rN 1 16 s).2
            have H5 : Hid (rN 0 16 (rN 1 16 s).2 = ((cn : Int), (rN 0 16 (rN 1 16 s).2).2)) := by
              show _ = _
              rw [← hc]
            refine (rk5 w0 w pe pr sv l a b s G0 (rN 1 16 s).1 (rN 1 16 s).2 (rN 0 16 (rN 1 16 s).2).2 cn rfl H5 hcn).mono ?_
            rintro e w' ⟨rfl, j, hj, he, h⟩
            refine ⟨rfl, _, _, h, ?_⟩
            have ht : tl true 5 a b s = (⟨5, a, b, [], [], 0, 0, (rN 1 16 s).1, (rW 48 48 cn (rN 0 16 (rN 1 16 s).2).2).1⟩, (rW 48 48 cn (rN 0 16 (rN 1 16 s).2).2).2) := by
              unfold tl
              rw [if_neg k1, if_neg k2, if_neg k3, if_neg k4, if_pos rfl]
              simp [lo1, hiE, loB, hiB, hc]
            rcases he with rfl | he
            · exact .inl ht.symm
            · refine .inr ⟨he, ?_⟩
              rw [ht]
              have := xW_bad he (cn - j)
              rwa [show j + (cn - j) = cn from by omega] at this
          · refine (rk0 w0 w pe pr sv l k a b s G0 k1 k2 k3 k4 k5).mono ?_
            rintro e w' ⟨rfl, h⟩
            exact ⟨rfl, _, _, h, .inl (by unfold tl; rw [if_neg k1, if_neg k2, if_neg k3, if_neg k4, if_neg k5])⟩
theorem Rg.rebase {w0 w W : World} {pe pr : Nat} {sv : Value} {l : List Nat} {s : Sta} {C : Array Value} (h : Rg w0 w W pe pr sv l s C) : Rg w0 W W pe pr sv l s C :=
  ⟨⟨h.pl.le, h.pl.lr, h.pl.ne, h.pl.src, h.pl.len, h.below⟩, h.rf, h.ev, ⟨rfl, rfl, rfl, Nat.le_refl _, fun _ _ _ => rfl⟩⟩
/-- Another box of the kind. -/
theorem Rg.move {w0 w W W' : World} {p2 pe pr : Nat} {sv : Value} {l : List Nat} {s : Sta} {C C' : Array Value} (h : Rg w0 w W p2 pr sv l s C) (hb : Below W.heap.size W W') (he : W'.heap[pe]? = some (.cells C' 30 (0, 0))) (hp : W.heap.size ≤ pe) : Rg w0 W' W' pe pr sv l s C' := by
  obtain ⟨a, h1, h2⟩ := h.rf
  have hb0 : Below w0.heap.size w0 W' := h.below.trans (bel_le hb h.below.size)
  have hlt := h1.lt
  exact ⟨⟨Nat.le_trans h.below.size hp, h.pl.lr, by omega, h.pl.src, h.pl.len, hb0⟩, ⟨a, h1.below hb, h2⟩, he, ⟨rfl, rfl, rfl, Nat.le_refl _, fun _ _ _ => rfl⟩⟩
/-- What Read tells. -/
def ReadSays (l : List Nat) (w : World) (e : Ending) (w' : World) : Prop :=
  Below w.heap.size w w' ∧ ((∃ E v, dec true l = some E ∧ e = .returned (.tuple #[v, .bool true]) ∧ EnIs w' v E) ∨ (dec true l = none ∧ e = .returned (.tuple #[.agg z9, .bool false])))
theorem rd_no {l : List Nat} {k a b : Int} {s s' : Sta} {E : En} (hd : decE true (l, false) = tl true k a b s) (h : (E, s') = tl true k a b s ∨ (s'.2 = true ∧ (tl true k a b s).2.2 = true)) (he : (!s'.2 && decide (s'.1 = [])) = false) : dec true l = none := by
  unfold dec
  rw [hd]
  rcases h with h | ⟨_, h⟩
  · rw [← h]
    simp only
    rw [if_neg]
    rintro ⟨h1, h2, _⟩
    simp [h1, h2] at he
  · rw [if_neg]
    rintro ⟨h1, _⟩
    rw [h] at h1
    cases h1
theorem rd_of {l : List Nat} {k a b : Int} {s s' : Sta} {E : En} (hd : decE true (l, false) = tl true k a b s) (h : (E, s') = tl true k a b s ∨ (s'.2 = true ∧ (tl true k a b s).2.2 = true)) (he : (!s'.2 && decide (s'.1 = [])) = true) : dec true l = if right E = true then some E else none := by
  simp at he
  unfold dec
  rw [hd]
  rcases h with h | ⟨h, _⟩
  · rw [← h]
    simp [he]
  · rw [h] at he
    simp at he
set_option maxHeartbeats 8000000 in
theorem Read_any (sv : Value) (l : List Nat) (w : World) (hs : Src w sv l) (hl : l.length ≤ 100000) : Calls Try.prog 18 #[sv] w fun e w' => ReadSays l w e w' := by
  obtain ⟨k, s1, H1⟩ : ∃ k s1, Hid (rN 1 5 (l, false) = (k, s1)) := ⟨(rN 1 5 (l, false)).1, (rN 1 5 (l, false)).2, rfl⟩
  obtain ⟨a, s2, H2⟩ : ∃ a s2, Hid (rN 1 16 s1 = (a, s2)) := ⟨(rN 1 16 s1).1, (rN 1 16 s1).2, rfl⟩
  obtain ⟨b, s3, H3⟩ : ∃ b s3, Hid (rN 1 1099511627776 s2 = (b, s3)) := ⟨(rN 1 1099511627776 s2).1, (rN 1 1099511627776 s2).2, rfl⟩
  have HD : Hid (decE true (l, false) = tl true k a b s3) := by
    show _ = _
    unfold decE hd lo1 hiK
    simp [H1.out, H2.out, H3.out]
  obtain ⟨sq, sc, rfl, -⟩ := hs.slice
  obtain ⟨S, HSS⟩ : ∃ S, Hid (ReadSays l w = S) := ⟨_, rfl⟩
  rw [HSS.out]
  generalize hln : l.length = ln at *
  have HB1 : Hid (Below w.heap.size w ((w.alloc (.cells #[.int .i64 0, .int .i64 0, .int .i64 0, .slice none 0 0, .slice none 0 0, .int .i64 0, .int .i64 0, .int .i64 0, .slice none 0 0] 30)).alloc (.cells #[.slice sq ln sc, .int .i64 0, .bool false] 65))) := (bel_alloc (Nat.le_refl _) _).trans (bel_alloc (by simp) _)
  have HZ1 : Hid (((w.alloc (.cells #[.int .i64 0, .int .i64 0, .int .i64 0, .slice none 0 0, .slice none 0 0, .int .i64 0, .int .i64 0, .int .i64 0, .slice none 0 0] 30)).alloc (.cells #[.slice sq ln sc, .int .i64 0, .bool false] 65)).heap[w.heap.size]? = some (.cells #[.int .i64 0, .int .i64 0, .int .i64 0, .slice none 0 0, .slice none 0 0, .int .i64 0, .int .i64 0, .int .i64 0, .slice none 0 0] 30 (0, 0))) := heap_alloc2_old w _ _
  have G0 : Hid (Rg w ((w.alloc (.cells #[.int .i64 0, .int .i64 0, .int .i64 0, .slice none 0 0, .slice none 0 0, .int .i64 0, .int .i64 0, .int .i64 0, .slice none 0 0] 30)).alloc (.cells #[.slice sq ln sc, .int .i64 0, .bool false] 65)) ((w.alloc (.cells #[.int .i64 0, .int .i64 0, .int .i64 0, .slice none 0 0, .slice none 0 0, .int .i64 0, .int .i64 0, .int .i64 0, .slice none 0 0] 30)).alloc (.cells #[.slice sq ln sc, .int .i64 0, .bool false] 65)) w.heap.size (w.heap.size + 1) (.slice sq ln sc) l (l, false) #[.int .i64 0, .int .i64 0, .int .i64 0, .slice none 0 0, .slice none 0 0, .int .i64 0, .int .i64 0, .int .i64 0, .slice none 0 0]) := ⟨⟨Nat.le_refl _, Nat.le_succ _, by omega, hs, by omega, HB1.out⟩, ⟨0, heap_alloc2_new w _ _, Nat.zero_le _, rfl⟩, HZ1.out, ⟨rfl, rfl, rfl, Nat.le_refl _, fun _ _ _ => rfl⟩⟩
  clear hs hl hln HZ1 HB1
  go_enter Try.func18, Try.ntmps18
  go_wp2_with fail
  refine (d37 G0 H1).mono ?_
  rintro e u0 ⟨rfl, G1, _⟩
  have A1 : Hid ((u0.alloc (.cells #[.int .i64 k, .int .i64 0, .int .i64 0, .slice none 0 0, .slice none 0 0, .int .i64 0, .int .i64 0, .int .i64 0, .slice none 0 0] 30)).heap[u0.heap.size]? = some (.cells #[.int .i64 k, .int .i64 0, .int .i64 0, .slice none 0 0, .slice none 0 0, .int .i64 0, .int .i64 0, .int .i64 0, .slice none 0 0] 30 (0, 0))) := heap_alloc_new u0 _
  have B1 : Below u0.heap.size u0 (u0.alloc (.cells #[.int .i64 k, .int .i64 0, .int .i64 0, .slice none 0 0, .slice none 0 0, .int .i64 0, .int .i64 0, .int .i64 0, .slice none 0 0] 30)) := bel_alloc (Nat.le_refl _) _
  have G2 : Hid (Rg w (u0.alloc (.cells #[.int .i64 k, .int .i64 0, .int .i64 0, .slice none 0 0, .slice none 0 0, .int .i64 0, .int .i64 0, .int .i64 0, .slice none 0 0] 30)) (u0.alloc (.cells #[.int .i64 k, .int .i64 0, .int .i64 0, .slice none 0 0, .slice none 0 0, .int .i64 0, .int .i64 0, .int .i64 0, .slice none 0 0] 30)) u0.heap.size (w.heap.size + 1) (.slice sq ln sc) l s1 #[.int .i64 k, .int .i64 0, .int .i64 0, .slice none 0 0, .slice none 0 0, .int .i64 0, .int .i64 0, .int .i64 0, .slice none 0 0]) := G1.out.move B1 A1.out (Nat.le_refl _)
  have L2 : Hid (w.heap.size < u0.heap.size) := (Array.getElem?_eq_some_iff.1 G1.out.ev).1
  have Z2 : Hid ((u0.alloc (.cells #[.int .i64 k, .int .i64 0, .int .i64 0, .slice none 0 0, .slice none 0 0, .int .i64 0, .int .i64 0, .int .i64 0, .slice none 0 0] 30)).heap[w.heap.size]? = some (.cells #[.int .i64 0, .int .i64 0, .int .i64 0, .slice none 0 0, .slice none 0 0, .int .i64 0, .int .i64 0, .int .i64 0, .slice none 0 0] 30 (0, 0))) := (B1.block _ L2.out).trans G1.out.ev
  clear G0 G1 A1 B1
  go_wp2_with fail
  generalize u0.alloc (.cells #[.int .i64 k, .int .i64 0, .int .i64 0, .slice none 0 0, .slice none 0 0, .int .i64 0, .int .i64 0, .int .i64 0, .slice none 0 0] 30) = u1 at *
  generalize u0.heap.size = pe at *
  refine (d37 G2 H2).mono ?_
  rintro e u2 ⟨rfl, G3, _⟩
  have x1 : u2.cell? ⟨pe, 1, none⟩ = some (.int .i64 0) := by rw [cell_of_row _ _ _ _ _ _ G3.out.ev]; rfl
  have y1 : u2.frozen? ⟨pe, 1, none⟩ = false := frozen_of_row _ _ _ _ _ G3.out.ev
  have G4 : Hid (Rg w u1 (u2.setCell ⟨pe, 1, none⟩ (.int .i64 a)) pe (w.heap.size + 1) (.slice sq ln sc) l s2 #[.int .i64 k, .int .i64 a, .int .i64 0, .slice none 0 0, .slice none 0 0, .int .i64 0, .int .i64 0, .int .i64 0, .slice none 0 0]) := G3.out.put 1 _ (heap_setCell_same _ pe 1 _ 30 _ G3.out.ev)
  clear G2 G3
  go_wp2_with fail
  refine (d37 G4 H3).mono ?_
  rintro e u3 ⟨rfl, G5, _⟩
  have x2 : u3.cell? ⟨pe, 2, none⟩ = some (.int .i64 0) := by rw [cell_of_row _ _ _ _ _ _ G5.out.ev]; rfl
  have y2 : u3.frozen? ⟨pe, 2, none⟩ = false := frozen_of_row _ _ _ _ _ G5.out.ev
  have G6 : Hid (Rg w u1 (u3.setCell ⟨pe, 2, none⟩ (.int .i64 b)) pe (w.heap.size + 1) (.slice sq ln sc) l s3 #[.int .i64 k, .int .i64 a, .int .i64 b, .slice none 0 0, .slice none 0 0, .int .i64 0, .int .i64 0, .int .i64 0, .slice none 0 0]) := G5.out.put 2 _ (heap_setCell_same _ pe 2 _ 30 _ G5.out.ev)
  clear G4 G5 x1 y1
  go_wp2_with fail
  have G7 : Hid (Rg w (u3.setCell ⟨pe, 2, none⟩ (.int .i64 b)) (u3.setCell ⟨pe, 2, none⟩ (.int .i64 b)) pe (w.heap.size + 1) (.slice sq ln sc) l s3 #[.int .i64 k, .int .i64 a, .int .i64 b, .slice none 0 0, .slice none 0 0, .int .i64 0, .int .i64 0, .int .i64 0, .slice none 0 0]) := G6.out.rebase
  have Z7 : Hid ((u3.setCell ⟨pe, 2, none⟩ (.int .i64 b)).heap[w.heap.size]? = some (.cells #[.int .i64 0, .int .i64 0, .int .i64 0, .slice none 0 0, .slice none 0 0, .int .i64 0, .int .i64 0, .int .i64 0, .slice none 0 0] 30 (0, 0))) := (G6.out.on.block _ (Array.getElem?_eq_some_iff.1 Z2.out).1 (by have := L2.out; simp; omega)).trans Z2.out
  clear G6 Z2 x2 y2
  generalize u3.setCell ⟨pe, 2, none⟩ (.int .i64 b) = u4 at *
  refine (rest_any w u4 pe (w.heap.size + 1) (.slice sq ln sc) l k a b s3 G7).mono ?_
  rintro e w6 ⟨rfl, HR⟩
  obtain ⟨E, s', ⟨np, nc, vp, vc, q, c, g6, f6⟩, ht⟩ := HR.out
  clear HR
  have HT : Hid ((E, s') = tl true k a b s3 ∨ (s'.2 = true ∧ (tl true k a b s3).2.2 = true)) := ht
  have Z8 : Hid (w6.heap[w.heap.size]? = some (.cells #[.int .i64 0, .int .i64 0, .int .i64 0, .slice none 0 0, .slice none 0 0, .int .i64 0, .int .i64 0, .int .i64 0, .slice none 0 0] 30 (0, 0))) := (g6.on.block _ (Array.getElem?_eq_some_iff.1 Z7.out).1 (by have := L2.out; simp; omega)).trans Z7.out
  obtain ⟨en, HEN⟩ : ∃ en, Hid ((!s'.2 && decide (s'.1 = [])) = en) := ⟨_, rfl⟩
  have H39 := d39 g6
  rw [HEN.out] at H39
  have H39' : Calls Try.prog 39 #[.pointer (some ⟨w.heap.size + 1, 0, none⟩)] w6 fun e w' => e = .returned (.bool en) ∧ Hid (∃ k, w' = w6.drewN k) := H39
  clear H39 ht G7 Z7
  have B8 : Hid (Below w.heap.size w w6) := g6.below
  have EV8 : Hid (w6.heap[pe]? = some (.cells (EnV E np nc vp vc q c) 30 (0, 0))) := g6.ev
  have F8 : Hid (∀ w2, AgF w.heap.size (pe + 1) w6 w2 → EnIs w2 (.agg (EnV E np nc vp vc q c)) E) := f6
  clear g6 f6
  obtain ⟨E0, HE0⟩ : ∃ E0, Hid (E = E0) := ⟨_, rfl⟩
  have F9 : Hid (∀ w2, AgF w.heap.size (pe + 1) w6 w2 → EnIs w2 (.agg (EnV E np nc vp vc q c)) E0) := HE0.out ▸ F8.out
  have HT2 : Hid ((E0, s') = tl true k a b s3 ∨ (s'.2 = true ∧ (tl true k a b s3).2.2 = true)) := HE0.out ▸ HT.out
  clear F8 HT HE0
  obtain ⟨e1, e2, e3, e4, e5, e6, e7, e8, e9⟩ := E
  simp only [EnV] at EV8 F9
  generalize e4.length = l4 at *
  generalize e5.length = l5 at *
  generalize e9.length = l9 at *
  go_wp2_with fail
  refine H39'.mono ?_
  rintro e w7 ⟨rfl, HK⟩
  obtain ⟨kk, hkk⟩ := HK.out
  have Z9 : Hid (w7.heap[w.heap.size]? = some (.cells #[.int .i64 0, .int .i64 0, .int .i64 0, .slice none 0 0, .slice none 0 0, .int .i64 0, .int .i64 0, .int .i64 0, .slice none 0 0] 30 (0, 0))) := by rw [hkk]; exact Z8.out
  have B9 : Hid (Below w.heap.size w w7) := B8.out.trans (by rw [hkk]; exact ⟨rfl, rfl, rfl, Nat.le_refl _, fun _ _ => rfl⟩)
  have EV9 : Hid (w7.heap[pe]? = some (.cells #[.int .i64 e1, .int .i64 e2, .int .i64 e3, .slice np l4 nc, .slice vp l5 vc, .int .i64 e6, .int .i64 e7, .int .i64 e8, .slice q l9 c] 30 (0, 0))) := by rw [hkk]; exact EV8.out
  have FA : Hid (∀ w2, AgF w.heap.size (pe + 1) w7 w2 → EnIs w2 (.agg #[.int .i64 e1, .int .i64 e2, .int .i64 e3, .slice np l4 nc, .slice vp l5 vc, .int .i64 e6, .int .i64 e7, .int .i64 e8, .slice q l9 c]) E0) := by rw [hkk]; exact F9.out
  clear HK hkk H39' Z8 B8 EV8 F9
  have x0 : w7.cell? ⟨w.heap.size, 0, none⟩ = some (.int .i64 0) := by rw [cell_of_row _ _ _ _ _ _ Z9.out]; rfl
  have y0 : w7.frozen? ⟨w.heap.size, 0, none⟩ = false := frozen_of_row _ _ _ _ _ Z9.out
  have x1 : w7.cell? ⟨w.heap.size, 1, none⟩ = some (.int .i64 0) := by rw [cell_of_row _ _ _ _ _ _ Z9.out]; rfl
  have y1 : w7.frozen? ⟨w.heap.size, 1, none⟩ = false := frozen_of_row _ _ _ _ _ Z9.out
  have x2 : w7.cell? ⟨w.heap.size, 2, none⟩ = some (.int .i64 0) := by rw [cell_of_row _ _ _ _ _ _ Z9.out]; rfl
  have y2 : w7.frozen? ⟨w.heap.size, 2, none⟩ = false := frozen_of_row _ _ _ _ _ Z9.out
  have x3 : w7.cell? ⟨w.heap.size, 3, none⟩ = some (.slice none 0 0) := by rw [cell_of_row _ _ _ _ _ _ Z9.out]; rfl
  have y3 : w7.frozen? ⟨w.heap.size, 3, none⟩ = false := frozen_of_row _ _ _ _ _ Z9.out
  have x4 : w7.cell? ⟨w.heap.size, 4, none⟩ = some (.slice none 0 0) := by rw [cell_of_row _ _ _ _ _ _ Z9.out]; rfl
  have y4 : w7.frozen? ⟨w.heap.size, 4, none⟩ = false := frozen_of_row _ _ _ _ _ Z9.out
  have x5 : w7.cell? ⟨w.heap.size, 5, none⟩ = some (.int .i64 0) := by rw [cell_of_row _ _ _ _ _ _ Z9.out]; rfl
  have y5 : w7.frozen? ⟨w.heap.size, 5, none⟩ = false := frozen_of_row _ _ _ _ _ Z9.out
  have x6 : w7.cell? ⟨w.heap.size, 6, none⟩ = some (.int .i64 0) := by rw [cell_of_row _ _ _ _ _ _ Z9.out]; rfl
  have y6 : w7.frozen? ⟨w.heap.size, 6, none⟩ = false := frozen_of_row _ _ _ _ _ Z9.out
  have x7 : w7.cell? ⟨w.heap.size, 7, none⟩ = some (.int .i64 0) := by rw [cell_of_row _ _ _ _ _ _ Z9.out]; rfl
  have y7 : w7.frozen? ⟨w.heap.size, 7, none⟩ = false := frozen_of_row _ _ _ _ _ Z9.out
  have x8 : w7.cell? ⟨w.heap.size, 8, none⟩ = some (.slice none 0 0) := by rw [cell_of_row _ _ _ _ _ _ Z9.out]; rfl
  have y8 : w7.frozen? ⟨w.heap.size, 8, none⟩ = false := frozen_of_row _ _ _ _ _ Z9.out
  cases en with
  | false =>
    go_wp2_with fail
    refine bodyPost_ret (results_row2 rfl _ _ w.heap.size 30 _ (0, 0) _ rfl (row9 Z9.out _ _ _ _ _ _ _ _ _) Try.underlying30 rfl (by kernel_rfl)) rfl ?_
    rw [← HSS.out]
    exact ⟨bel9 (B9.out) (Nat.le_refl _) _ _ _ _ _ _ _ _ _, .inr ⟨rd_no HD.out HT2.out HEN.out, rfl⟩⟩
  | true =>
    have d0 : w7.cell? ⟨pe, 0, none⟩ = some (.int .i64 e1) := by rw [cell_of_row _ _ _ _ _ _ EV9.out]; rfl
    have d1 : w7.cell? ⟨pe, 1, none⟩ = some (.int .i64 e2) := by rw [cell_of_row _ _ _ _ _ _ EV9.out]; rfl
    have d2 : w7.cell? ⟨pe, 2, none⟩ = some (.int .i64 e3) := by rw [cell_of_row _ _ _ _ _ _ EV9.out]; rfl
    have d3 : w7.cell? ⟨pe, 3, none⟩ = some (.slice np l4 nc) := by rw [cell_of_row _ _ _ _ _ _ EV9.out]; rfl
    have d4 : w7.cell? ⟨pe, 4, none⟩ = some (.slice vp l5 vc) := by rw [cell_of_row _ _ _ _ _ _ EV9.out]; rfl
    have d5 : w7.cell? ⟨pe, 5, none⟩ = some (.int .i64 e6) := by rw [cell_of_row _ _ _ _ _ _ EV9.out]; rfl
    have d6 : w7.cell? ⟨pe, 6, none⟩ = some (.int .i64 e7) := by rw [cell_of_row _ _ _ _ _ _ EV9.out]; rfl
    have d7 : w7.cell? ⟨pe, 7, none⟩ = some (.int .i64 e8) := by rw [cell_of_row _ _ _ _ _ _ EV9.out]; rfl
    have d8 : w7.cell? ⟨pe, 8, none⟩ = some (.slice q l9 c) := by rw [cell_of_row _ _ _ _ _ _ EV9.out]; rfl
    have HRT := rRight_any E0 (.agg #[.int .i64 e1, .int .i64 e2, .int .i64 e3, .slice np l4 nc, .slice vp l5 vc, .int .i64 e6, .int .i64 e7, .int .i64 e8, .slice q l9 c]) w7 (FA.out w7 ⟨fun _ _ _ => rfl, Nat.le_refl _⟩)
    have HDD := rd_of HD.out HT2.out HEN.out
    cases hr : right E0 with
    | false =>
      rw [hr] at HRT
      have HNO : Hid (dec true l = none) := by
        show _ = _
        rw [HDD, hr]
        rfl
      clear HDD hr
      have HR7 : Calls Try.prog 14 #[.agg #[.int .i64 e1, .int .i64 e2, .int .i64 e3, .slice np l4 nc, .slice vp l5 vc, .int .i64 e6, .int .i64 e7, .int .i64 e8, .slice q l9 c]] w7 fun e w' => e = .returned (.bool false) ∧ Hid (w'.heap[w.heap.size]? = some (.cells #[.int .i64 0, .int .i64 0, .int .i64 0, .slice none 0 0, .slice none 0 0, .int .i64 0, .int .i64 0, .int .i64 0, .slice none 0 0] 30 (0, 0)) ∧ Below w.heap.size w w') := HRT.mono (by
        rintro e w' ⟨rfl, h7⟩
        exact ⟨rfl, (h7.block _ (Array.getElem?_eq_some_iff.1 Z9.out).1).trans Z9.out, B9.out.trans (bel_le h7 B9.out.size)⟩)
      clear HRT
      go_wp2_with fail
      refine HR7.mono ?_
      rintro e w8 ⟨rfl, ZA⟩
      clear HR7 x0 y0 d0 x1 y1 d1 x2 y2 d2 x3 y3 d3 x4 y4 d4 x5 y5 d5 x6 y6 d6 x7 y7 d7 x8 y8 d8
      have x0 : w8.cell? ⟨w.heap.size, 0, none⟩ = some (.int .i64 0) := by rw [cell_of_row _ _ _ _ _ _ ZA.out.1]; rfl
      have y0 : w8.frozen? ⟨w.heap.size, 0, none⟩ = false := frozen_of_row _ _ _ _ _ ZA.out.1
      have x1 : w8.cell? ⟨w.heap.size, 1, none⟩ = some (.int .i64 0) := by rw [cell_of_row _ _ _ _ _ _ ZA.out.1]; rfl
      have y1 : w8.frozen? ⟨w.heap.size, 1, none⟩ = false := frozen_of_row _ _ _ _ _ ZA.out.1
      have x2 : w8.cell? ⟨w.heap.size, 2, none⟩ = some (.int .i64 0) := by rw [cell_of_row _ _ _ _ _ _ ZA.out.1]; rfl
      have y2 : w8.frozen? ⟨w.heap.size, 2, none⟩ = false := frozen_of_row _ _ _ _ _ ZA.out.1
      have x3 : w8.cell? ⟨w.heap.size, 3, none⟩ = some (.slice none 0 0) := by rw [cell_of_row _ _ _ _ _ _ ZA.out.1]; rfl
      have y3 : w8.frozen? ⟨w.heap.size, 3, none⟩ = false := frozen_of_row _ _ _ _ _ ZA.out.1
      have x4 : w8.cell? ⟨w.heap.size, 4, none⟩ = some (.slice none 0 0) := by rw [cell_of_row _ _ _ _ _ _ ZA.out.1]; rfl
      have y4 : w8.frozen? ⟨w.heap.size, 4, none⟩ = false := frozen_of_row _ _ _ _ _ ZA.out.1
      have x5 : w8.cell? ⟨w.heap.size, 5, none⟩ = some (.int .i64 0) := by rw [cell_of_row _ _ _ _ _ _ ZA.out.1]; rfl
      have y5 : w8.frozen? ⟨w.heap.size, 5, none⟩ = false := frozen_of_row _ _ _ _ _ ZA.out.1
      have x6 : w8.cell? ⟨w.heap.size, 6, none⟩ = some (.int .i64 0) := by rw [cell_of_row _ _ _ _ _ _ ZA.out.1]; rfl
      have y6 : w8.frozen? ⟨w.heap.size, 6, none⟩ = false := frozen_of_row _ _ _ _ _ ZA.out.1
      have x7 : w8.cell? ⟨w.heap.size, 7, none⟩ = some (.int .i64 0) := by rw [cell_of_row _ _ _ _ _ _ ZA.out.1]; rfl
      have y7 : w8.frozen? ⟨w.heap.size, 7, none⟩ = false := frozen_of_row _ _ _ _ _ ZA.out.1
      have x8 : w8.cell? ⟨w.heap.size, 8, none⟩ = some (.slice none 0 0) := by rw [cell_of_row _ _ _ _ _ _ ZA.out.1]; rfl
      have y8 : w8.frozen? ⟨w.heap.size, 8, none⟩ = false := frozen_of_row _ _ _ _ _ ZA.out.1
      go_wp2_with fail
      refine bodyPost_ret (results_row2 rfl _ _ w.heap.size 30 _ (0, 0) _ rfl (row9 ZA.out.1 _ _ _ _ _ _ _ _ _) Try.underlying30 rfl (by kernel_rfl)) rfl ?_
      rw [← HSS.out]
      exact ⟨bel9 (ZA.out.2) (Nat.le_refl _) _ _ _ _ _ _ _ _ _, .inr ⟨HNO.out, rfl⟩⟩
    | true =>
      rw [hr] at HRT
      have HYE : Hid (dec true l = some E0) := by
        show _ = _
        rw [HDD, hr]
        rfl
      clear HDD hr
      have HR7 : Calls Try.prog 14 #[.agg #[.int .i64 e1, .int .i64 e2, .int .i64 e3, .slice np l4 nc, .slice vp l5 vc, .int .i64 e6, .int .i64 e7, .int .i64 e8, .slice q l9 c]] w7 fun e w' => e = .returned (.bool true) ∧ Hid (w'.heap[w.heap.size]? = some (.cells #[.int .i64 0, .int .i64 0, .int .i64 0, .slice none 0 0, .slice none 0 0, .int .i64 0, .int .i64 0, .int .i64 0, .slice none 0 0] 30 (0, 0)) ∧ Below w.heap.size w w' ∧ w'.heap[pe]? = some (.cells #[.int .i64 e1, .int .i64 e2, .int .i64 e3, .slice np l4 nc, .slice vp l5 vc, .int .i64 e6, .int .i64 e7, .int .i64 e8, .slice q l9 c] 30 (0, 0)) ∧ ∀ w2, AgF w.heap.size (pe + 1) w' w2 → EnIs w2 (.agg #[.int .i64 e1, .int .i64 e2, .int .i64 e3, .slice np l4 nc, .slice vp l5 vc, .int .i64 e6, .int .i64 e7, .int .i64 e8, .slice q l9 c]) E0) := HRT.mono (by
        rintro e w' ⟨rfl, h7⟩
        exact ⟨rfl, (h7.block _ (Array.getElem?_eq_some_iff.1 Z9.out).1).trans Z9.out, B9.out.trans (bel_le h7 B9.out.size), (h7.block _ (Array.getElem?_eq_some_iff.1 EV9.out).1).trans EV9.out, fun w2 ha => FA.out w2 ⟨fun k hk hlk => (ha.1 k hk (Nat.lt_of_lt_of_le hlk h7.size)).trans (h7.block k hlk), Nat.le_trans h7.size ha.2⟩⟩)
      clear HRT
      go_wp2_with fail
      refine HR7.mono ?_
      rintro e w8 ⟨rfl, ZA⟩
      clear HR7 x0 y0 d0 x1 y1 d1 x2 y2 d2 x3 y3 d3 x4 y4 d4 x5 y5 d5 x6 y6 d6 x7 y7 d7 x8 y8 d8
      have x0 : w8.cell? ⟨w.heap.size, 0, none⟩ = some (.int .i64 0) := by rw [cell_of_row _ _ _ _ _ _ ZA.out.1]; rfl
      have y0 : w8.frozen? ⟨w.heap.size, 0, none⟩ = false := frozen_of_row _ _ _ _ _ ZA.out.1
      have x1 : w8.cell? ⟨w.heap.size, 1, none⟩ = some (.int .i64 0) := by rw [cell_of_row _ _ _ _ _ _ ZA.out.1]; rfl
      have y1 : w8.frozen? ⟨w.heap.size, 1, none⟩ = false := frozen_of_row _ _ _ _ _ ZA.out.1
      have x2 : w8.cell? ⟨w.heap.size, 2, none⟩ = some (.int .i64 0) := by rw [cell_of_row _ _ _ _ _ _ ZA.out.1]; rfl
      have y2 : w8.frozen? ⟨w.heap.size, 2, none⟩ = false := frozen_of_row _ _ _ _ _ ZA.out.1
      have x3 : w8.cell? ⟨w.heap.size, 3, none⟩ = some (.slice none 0 0) := by rw [cell_of_row _ _ _ _ _ _ ZA.out.1]; rfl
      have y3 : w8.frozen? ⟨w.heap.size, 3, none⟩ = false := frozen_of_row _ _ _ _ _ ZA.out.1
      have x4 : w8.cell? ⟨w.heap.size, 4, none⟩ = some (.slice none 0 0) := by rw [cell_of_row _ _ _ _ _ _ ZA.out.1]; rfl
      have y4 : w8.frozen? ⟨w.heap.size, 4, none⟩ = false := frozen_of_row _ _ _ _ _ ZA.out.1
      have x5 : w8.cell? ⟨w.heap.size, 5, none⟩ = some (.int .i64 0) := by rw [cell_of_row _ _ _ _ _ _ ZA.out.1]; rfl
      have y5 : w8.frozen? ⟨w.heap.size, 5, none⟩ = false := frozen_of_row _ _ _ _ _ ZA.out.1
      have x6 : w8.cell? ⟨w.heap.size, 6, none⟩ = some (.int .i64 0) := by rw [cell_of_row _ _ _ _ _ _ ZA.out.1]; rfl
      have y6 : w8.frozen? ⟨w.heap.size, 6, none⟩ = false := frozen_of_row _ _ _ _ _ ZA.out.1
      have x7 : w8.cell? ⟨w.heap.size, 7, none⟩ = some (.int .i64 0) := by rw [cell_of_row _ _ _ _ _ _ ZA.out.1]; rfl
      have y7 : w8.frozen? ⟨w.heap.size, 7, none⟩ = false := frozen_of_row _ _ _ _ _ ZA.out.1
      have x8 : w8.cell? ⟨w.heap.size, 8, none⟩ = some (.slice none 0 0) := by rw [cell_of_row _ _ _ _ _ _ ZA.out.1]; rfl
      have y8 : w8.frozen? ⟨w.heap.size, 8, none⟩ = false := frozen_of_row _ _ _ _ _ ZA.out.1
      have d0 : w8.cell? ⟨pe, 0, none⟩ = some (.int .i64 e1) := by rw [cell_of_row _ _ _ _ _ _ ZA.out.2.2.1]; rfl
      have d1 : w8.cell? ⟨pe, 1, none⟩ = some (.int .i64 e2) := by rw [cell_of_row _ _ _ _ _ _ ZA.out.2.2.1]; rfl
      have d2 : w8.cell? ⟨pe, 2, none⟩ = some (.int .i64 e3) := by rw [cell_of_row _ _ _ _ _ _ ZA.out.2.2.1]; rfl
      have d3 : w8.cell? ⟨pe, 3, none⟩ = some (.slice np l4 nc) := by rw [cell_of_row _ _ _ _ _ _ ZA.out.2.2.1]; rfl
      have d4 : w8.cell? ⟨pe, 4, none⟩ = some (.slice vp l5 vc) := by rw [cell_of_row _ _ _ _ _ _ ZA.out.2.2.1]; rfl
      have d5 : w8.cell? ⟨pe, 5, none⟩ = some (.int .i64 e6) := by rw [cell_of_row _ _ _ _ _ _ ZA.out.2.2.1]; rfl
      have d6 : w8.cell? ⟨pe, 6, none⟩ = some (.int .i64 e7) := by rw [cell_of_row _ _ _ _ _ _ ZA.out.2.2.1]; rfl
      have d7 : w8.cell? ⟨pe, 7, none⟩ = some (.int .i64 e8) := by rw [cell_of_row _ _ _ _ _ _ ZA.out.2.2.1]; rfl
      have d8 : w8.cell? ⟨pe, 8, none⟩ = some (.slice q l9 c) := by rw [cell_of_row _ _ _ _ _ _ ZA.out.2.2.1]; rfl
      go_wp2_with fail
      refine bodyPost_ret (results_row2 rfl _ _ w.heap.size 30 _ (0, 0) _ rfl (row9 ZA.out.1 _ _ _ _ _ _ _ _ _) Try.underlying30 rfl (by kernel_rfl)) rfl ?_
      rw [← HSS.out]
      refine ⟨bel9 ZA.out.2.1 (Nat.le_refl _) _ _ _ _ _ _ _ _ _, .inl ⟨_, _, HYE.out, rfl, ZA.out.2.2.2 _ ⟨fun k hk hlk => ?_, ?_⟩⟩⟩
      · exact (only9 w8 w.heap.size _ _ _ _ _ _ _ _ _).block k hlk (by have := L2.out; simp; omega)
      · exact (only9 w8 w.heap.size _ _ _ _ _ _ _ _ _).size
end Go.Proofs.Ytiihdpkpgcmioaa.E9
