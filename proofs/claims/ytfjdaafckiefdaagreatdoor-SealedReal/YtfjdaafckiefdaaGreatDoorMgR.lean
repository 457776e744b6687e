/- The reader by plain functions of what it has left; the contracts of Decode's closures. -/
import Derived.Test.YtfjdaafckiefdaaGreatDoorMgE
import Derived.Test.YtfjdaafckiefdaaGreatDoorMgC
import Derived.Laws.ResultCell
import Derived.Test.YtfjdaafckiefdaaGreatDoorMgN
namespace Go.Proofs.YtfjdaafckiefdaaGreatDoor.E9
open Go.RowKit C8
/-- A reader at p, whose bytes lie from A on and below B. -/
def RdS (w : World) (p A B : Nat) (s : Sta) : Prop := ∃ g o, RdAt w p g o s.1 s.2 ∧ (s.1 ≠ [] → A ≤ g ∧ g < B) ∧ p < B
/-- A text that was read: it lies from A on and below B, and not at p. -/
def Tx (w : World) (p A B : Nat) (v : Value) (t : List Nat) : Prop := Src w v t ∧ (t ≠ [] → ∃ g, v.ownBlock = some g ∧ A ≤ g ∧ g < B ∧ g ≠ p)
theorem Tx.only {w w' : World} {p A B : Nat} {v : Value} {t : List Nat} (h : Tx w p A B v t) (ho : Only [p] w w') : Tx w' p A B v t := by
  refine ⟨?_, h.2⟩
  by_cases h0 : t = []
  · subst h0
    exact h.1.empty w'
  · obtain ⟨g, hg, _, _, hp⟩ := h.2 h0
    exact h.1.only ho (fun b hb hm => by rw [hg] at hb; cases hb; simp at hm; exact hp hm)
theorem Tx.below {w w' : World} {p A B : Nat} {v : Value} {t : List Nat} (h : Tx w p A B v t) (hb : Below B w w') : Tx w' p A B v t := by
  refine ⟨?_, h.2⟩
  have : Old B w v t := ⟨h.1, fun h0 b hb => by obtain ⟨g, hg, _, hB, _⟩ := h.2 h0; rw [hg] at hb; cases hb; exact hB⟩
  exact (this.keep hb).1
theorem Tx.nil (w : World) (p A B : Nat) : Tx w p A B (.slice none 0 0) [] := ⟨Src.nil w, fun h => absurd rfl h⟩
theorem RdS.below {w w' : World} {p A B : Nat} {s : Sta} (h : RdS w p A B s) (hb : Below B w w') : RdS w' p A B s := by
  obtain ⟨g, o, h1, h2, h3⟩ := h
  refine ⟨g, o, ?_, h2, h3⟩
  obtain ⟨k1, k2, k3, sl, k4, k5⟩ := h1
  refine ⟨k1, k2, k3, sl, (hb.block p h3).trans k4, ?_⟩
  rcases k5 with k5 | ⟨c, k5, k6, k7⟩
  · exact .inl k5
  · refine .inr ⟨c, k5, k6, ?_⟩
    by_cases h0 : s.1 = []
    · rw [h0]
      exact fun j u hu => by simp [ints] at hu
    · exact range_kept k7 (hb.block g (h2 h0).2)
theorem number_any (w : World) (p A B : Nat) (s s' : Sta) (lo hi n : Int) (h : RdS w p A B s) (he : rN lo hi s = (n, s')) :
    Calls Tryz.prog 48 #[.pointer (some ⟨p, 0, none⟩), .int .i64 lo, .int .i64 hi] w fun e w' => e = .returned (.int .i64 n) ∧ RdS w' p A B s' ∧ Only [p] w w' := by
  obtain ⟨g, o, h1, h2, h3⟩ := h
  unfold rN at he
  split at he
  · rename_i hc
    cases he
    refine (Number_lack w p g o s.1 s.2 lo hi h1 hc).mono ?_
    rintro e w' ⟨rfl, k1, k2⟩
    exact ⟨rfl, ⟨g, o, k1, fun h => absurd rfl h, h3⟩, k2⟩
  · rename_i hc
    cases he
    refine (Number_ok w p g o s.1 s.2 lo hi _ h1 (by omega) rfl (by omega) (by omega)).mono ?_
    rintro e w' ⟨rfl, k1, k2⟩
    exact ⟨rfl, ⟨g, o + 6, k1, fun _ => h2 (fun e => hc (.inl (by rw [e]; decide))), h3⟩, k2⟩
theorem text_any (w : World) (p A B : Nat) (s s' : Sta) (lo hi : Int) (t : List Nat) (h : RdS w p A B s) (he : rT lo hi s = (t, s')) :
    Calls Tryz.prog 49 #[.pointer (some ⟨p, 0, none⟩), .int .i64 lo, .int .i64 hi] w fun e w' => ∃ tp tc, e = .returned (.slice tp t.length tc) ∧ Tx w' p A B (.slice tp t.length tc) t ∧ RdS w' p A B s' ∧ Only [p] w w' := by
  obtain ⟨g, o, h1, h2, h3⟩ := h
  unfold rT at he
  split at he
  · rename_i hc
    cases he
    refine (Text_lack w p g o s.1 s.2 lo hi h1 hc).mono ?_
    rintro e w' ⟨rfl, k1, k2⟩
    exact ⟨none, 0, rfl, Tx.nil _ _ _ _, ⟨g, o, k1, fun h => absurd rfl h, h3⟩, k2⟩
  · rename_i hc
    cases he
    have hne : s.1 ≠ [] := fun e => hc (.inl (by rw [e]; decide))
    refine (Text_src w p g o s.1 s.2 lo hi _ h1 (by omega) rfl (by omega) (by omega)).mono ?_
    rintro e w' ⟨v, rfl, k0, k1, k2, k3⟩
    obtain ⟨tp, tc, rfl, _⟩ := k1.slice
    refine ⟨tp, tc, rfl, ⟨k1, fun h0 => ?_⟩, ⟨g, _, k2, fun _ => h2 hne, h3⟩, k3⟩
    rcases k0 with ⟨hz, _⟩ | k0
    · rw [hz, List.take_zero] at h0
      exact absurd rfl h0
    · rw [k0]
      exact ⟨g, rfl, (h2 hne).1, (h2 hne).2, fun e => h1.2.2.1 e.symm⟩
theorem end_any (w : World) (p A B : Nat) (s : Sta) (h : RdS w p A B s) : Calls Tryz.prog 50 #[.pointer (some ⟨p, 0, none⟩)] w fun e w' => e = .returned (.bool (!s.2 && decide (s.1 = []))) ∧ w' = w := by
  obtain ⟨g, o, h1, -, -⟩ := h
  have := End_any w p g o s.1 s.2 h1
  rwa [show decide (s.1.length = 0) = decide (s.1 = []) from by rw [decide_eq_decide]; exact List.length_eq_zero_iff] at this
/-- Read makes such a reader. -/
theorem read_any (sv : Value) (l : List Nat) (w : World) (hs : Src w sv l) (hl : l.length ≤ 900000) :
    Calls Tryz.prog 46 #[sv] w fun e w' => ∃ p, e = .returned (.pointer (some ⟨p, 0, none⟩)) ∧ RdS w' p w.heap.size w'.heap.size (l, false) ∧ w.heap.size ≤ p ∧ p < w'.heap.size ∧ Below w.heap.size w w' := by
  refine (Read_any sv l w hs hl).mono ?_
  rintro e w' ⟨p, g, o, rfl, h1, h2, h3, h4⟩
  refine ⟨p, rfl, ⟨g, o, h1, fun h0 => ⟨h3, ?_⟩, h1.lt⟩, h2, h1.lt, h4⟩
  obtain ⟨k1, k2, k3, sl, k4, ⟨q, c, _, k5⟩ | ⟨c, k5, k6, k7⟩⟩ := h1
  · exact absurd k5 h0
  · exact range_lt k7 (ints_ne h0)
set_option maxHeartbeats 1000000 in
theorem clo28 (w : World) (b p A B : Nat) (s s' : Sta) (n : Int) (hc : w.cell? ⟨b, 0, none⟩ = some (.pointer (some ⟨p, 0, none⟩))) (h : Hid (RdS w p A B s)) (he : Hid (rN 0 1099511627776 s = (n, s'))) :
    Calls Tryz.prog 111 #[.pointer (some ⟨b, 0, none⟩)] w fun e w' => e = .returned (.int .i64 n) ∧ Hid (RdS w' p A B s') ∧ Hid (Only [p] w w') := by
  have HC : ∀ W, W = w → Calls Tryz.prog 48 #[.pointer (some ⟨p, 0, none⟩), .int .i64 0, .int .i64 1099511627776] W fun e w' => e = .returned (.int .i64 n) ∧ Hid (RdS w' p A B s') ∧ Hid (Only [p] w w') := by
    rintro W rfl
    exact number_any W p A B s s' _ _ n h.out he.out
  clear h he
  go_enter Tryz.func111, Tryz.ntmps111
  go_wp2_with (first | (go_at_call 48; refine (HC _ rfl).mono ?_; rintro e w1 ⟨rfl, H1, H2⟩))
  go_ret
  exact ⟨rfl, H1, H2⟩
set_option maxHeartbeats 1000000 in
theorem clo30 (w : World) (b p A B : Nat) (s s' : Sta) (n : Int) (hc : w.cell? ⟨b, 0, none⟩ = some (.pointer (some ⟨p, 0, none⟩))) (h : Hid (RdS w p A B s)) (he : Hid (rN 1 16 s = (n, s'))) :
    Calls Tryz.prog 112 #[.pointer (some ⟨b, 0, none⟩)] w fun e w' => e = .returned (.int .i64 n) ∧ Hid (RdS w' p A B s') ∧ Hid (Only [p] w w') := by
  have HC : ∀ W, W = w → Calls Tryz.prog 48 #[.pointer (some ⟨p, 0, none⟩), .int .i64 1, .int .i64 16] W fun e w' => e = .returned (.int .i64 n) ∧ Hid (RdS w' p A B s') ∧ Hid (Only [p] w w') := by
    rintro W rfl
    exact number_any W p A B s s' _ _ n h.out he.out
  clear h he
  go_enter Tryz.func112, Tryz.ntmps112
  go_wp2_with (first | (go_at_call 48; refine (HC _ rfl).mono ?_; rintro e w1 ⟨rfl, H1, H2⟩))
  go_ret
  exact ⟨rfl, H1, H2⟩
set_option maxHeartbeats 1000000 in
theorem clo31 (w : World) (b p A B : Nat) (s s' : Sta) (t : List Nat) (hc : w.cell? ⟨b, 0, none⟩ = some (.pointer (some ⟨p, 0, none⟩))) (h : Hid (RdS w p A B s)) (he : Hid (rT 0 4096 s = (t, s'))) :
    Calls Tryz.prog 113 #[.pointer (some ⟨b, 0, none⟩)] w fun e w' => ∃ tp tc, e = .returned (.slice tp t.length tc) ∧ Hid (Tx w' p A B (.slice tp t.length tc) t) ∧ Hid (RdS w' p A B s') ∧ Hid (Only [p] w w') := by
  have HC : ∀ W, W = w → Calls Tryz.prog 49 #[.pointer (some ⟨p, 0, none⟩), .int .i64 0, .int .i64 4096] W fun e w' => ∃ tp tc, e = .returned (.slice tp t.length tc) ∧ Hid (Tx w' p A B (.slice tp t.length tc) t) ∧ Hid (RdS w' p A B s') ∧ Hid (Only [p] w w') := by
    rintro W rfl
    exact text_any W p A B s s' _ _ t h.out he.out
  clear h he
  generalize t.length = tl at *
  go_enter Tryz.func113, Tryz.ntmps113
  go_wp2_with (first | (go_at_call 49; refine (HC _ rfl).mono ?_; rintro e w1 ⟨tp, tc, rfl, H0, H1, H2⟩))
  go_ret
  exact ⟨tp, tc, rfl, H0, H1, H2⟩
end Go.Proofs.YtfjdaafckiefdaaGreatDoor.E9
/- Decode: what stands while it reads, and what it tells. -/
namespace Go.Proofs.YtfjdaafckiefdaaGreatDoor.E9
open Go.RowKit C8
/-- The nine cells of no entry. -/
def z9 : Array Value := #[.int .i64 0, .int .i64 0, .int .i64 0, .slice none 0 0, .slice none 0 0, .int .i64 0, .int .i64 0, .int .i64 0, .slice none 0 0]
/-- The reader at p, its place B, the result's place. -/
structure D4 (w W : World) (p B : Nat) (s : Sta) : Prop where
  rd : RdS W p (w.heap.size + 1) B s
  at4 : W.heap[B]? = some (.cells #[.pointer (some ⟨p, 0, none⟩)] 81 (0, 0))
  at2 : W.heap[w.heap.size]? = some (.cells z9 49 (0, 0))
  bel : Below w.heap.size w W
  lo : w.heap.size < p
  hi : p < B
section
variable {w W W' : World} {p B : Nat} {s s' : Sta}
theorem D4.lt (h : D4 w W p B s) : B < W.heap.size := (Array.getElem?_eq_some_iff.1 h.at4).1
theorem D4.read (h : D4 w W p B s) (hr : RdS W' p (w.heap.size + 1) B s') (ho : Only [p] W W') : D4 w W' p B s' :=
  ⟨hr, (ho.block B h.lt (by have := h.hi; simp; omega)).trans h.at4, (ho.block _ (Nat.lt_of_lt_of_le (Nat.lt_trans h.lo h.hi) (Nat.le_of_lt h.lt)) (by have := h.lo; simp; omega)).trans h.at2, h.bel.trans (ho.below h.bel.size (by have := h.lo; simp; omega)), h.lo, h.hi⟩
theorem D4.up (h : D4 w W p B s) (hb : Below (B + 1) W W') : D4 w W' p B s :=
  ⟨h.rd.below (bel_le hb (Nat.le_succ _)), (hb.block B (Nat.lt_succ_self _)).trans h.at4, (hb.block _ (by have := h.lo; have := h.hi; omega)).trans h.at2, h.bel.trans (bel_le hb (by have := h.lo; have := h.hi; omega)), h.lo, h.hi⟩
theorem D4.c4 (h : D4 w W p B s) : W.cell? ⟨B, 0, none⟩ = some (.pointer (some ⟨p, 0, none⟩)) := by rw [cell_of_row _ _ _ _ _ _ h.at4]; rfl
theorem D4.start {w1 : World} (h0 : Below (w.alloc (.cells z9 49)).heap.size (w.alloc (.cells z9 49)) w1) (hr : RdS w1 p (w.alloc (.cells z9 49)).heap.size w1.heap.size s) (h1 : (w.alloc (.cells z9 49)).heap.size ≤ p) (h2 : p < w1.heap.size) :
    D4 w (w1.alloc (.cells #[.pointer (some ⟨p, 0, none⟩)] 81)) p w1.heap.size s := by
  have hz : (w.alloc (.cells z9 49)).heap.size = w.heap.size + 1 := by simp
  have hb1 : Below w.heap.size w w1 := (bel_alloc (Nat.le_refl _) _).trans (bel_le h0 (by omega))
  have ha : Below w1.heap.size w1 (w1.alloc (.cells #[.pointer (some ⟨p, 0, none⟩)] 81)) := bel_alloc (Nat.le_refl _) _
  rw [hz] at hr
  refine ⟨hr.below ha, heap_alloc_new w1 _, ?_, hb1.trans (bel_le ha hb1.size), by omega, h2⟩
  rw [ha.block _ (by have := h0.size; omega), h0.block _ (by omega)]
  exact heap_alloc_new w _
theorem c28 (h : Hid (D4 w W p B s)) {n : Int} (he : Hid (rN 0 1099511627776 s = (n, s'))) : Calls Tryz.prog 111 #[.pointer (some ⟨B, 0, none⟩)] W fun e w' => e = .returned (.int .i64 n) ∧ Hid (D4 w w' p B s') ∧ Hid (Only [p] W w') :=
  (clo28 W B p (w.heap.size + 1) B s s' n h.out.c4 h.out.rd he).mono (by rintro e w' ⟨rfl, h1, h2⟩; exact ⟨rfl, h.out.read h1.out h2.out, h2⟩)
theorem c30 (h : Hid (D4 w W p B s)) {n : Int} (he : Hid (rN 1 16 s = (n, s'))) : Calls Tryz.prog 112 #[.pointer (some ⟨B, 0, none⟩)] W fun e w' => e = .returned (.int .i64 n) ∧ Hid (D4 w w' p B s') ∧ Hid (Only [p] W w') :=
  (clo30 W B p (w.heap.size + 1) B s s' n h.out.c4 h.out.rd he).mono (by rintro e w' ⟨rfl, h1, h2⟩; exact ⟨rfl, h.out.read h1.out h2.out, h2⟩)
theorem c31 (h : Hid (D4 w W p B s)) {t : List Nat} (he : Hid (rT 0 4096 s = (t, s'))) : Calls Tryz.prog 113 #[.pointer (some ⟨B, 0, none⟩)] W fun e w' => ∃ tp tc, e = .returned (.slice tp t.length tc) ∧ Hid (Tx w' p (w.heap.size + 1) B (.slice tp t.length tc) t) ∧ Hid (D4 w w' p B s') ∧ Hid (Only [p] W w') :=
  (clo31 W B p (w.heap.size + 1) B s s' t h.out.c4 h.out.rd he).mono (by rintro e w' ⟨tp, tc, rfl, h0, h1, h2⟩; exact ⟨tp, tc, rfl, h0, h.out.read h1.out h2.out, h2⟩)
theorem c33 (h : Hid (D4 w W p B s)) {en : Bool} (he : Hid ((!s.2 && decide (s.1 = [])) = en)) : Calls Tryz.prog 50 #[.pointer (some ⟨p, 0, none⟩)] W fun e w' => e = .returned (.bool en) ∧ W = w' :=
  (end_any W p (w.heap.size + 1) B s h.out.rd).mono (by rintro e w' ⟨rfl, rfl⟩; exact ⟨by rw [he.out], rfl⟩)
end
/-- The blocks from A on are as they were. -/
def Agree (A : Nat) (w w2 : World) : Prop := (∀ k, A ≤ k → k < w.heap.size → w2.heap[k]? = w.heap[k]?) ∧ w.heap.size ≤ w2.heap.size
theorem Agree.refl (A : Nat) (w : World) : Agree A w w := ⟨fun _ _ _ => rfl, Nat.le_refl _⟩
theorem Agree.trans {A : Nat} {w w1 w2 : World} (h : Agree A w w1) (k : Agree A w1 w2) : Agree A w w2 := ⟨fun i hi hl => (k.1 i hi (Nat.lt_of_lt_of_le hl h.2)).trans (h.1 i hi hl), Nat.le_trans h.2 k.2⟩
theorem Agree.below {A : Nat} {w w1 : World} (h : Below w.heap.size w w1) : Agree A w w1 := ⟨fun i _ hl => h.block i hl, h.size⟩
/-- An entry whose memory lies from A on. -/
def EnNew (A : Nat) (w : World) (v : Value) (e : En) : Prop := ∀ w2, Agree A w w2 → EnIs w2 v e
theorem EnNew.is {A : Nat} {w : World} {v : Value} {e : En} (h : EnNew A w v e) : EnIs w v e := h w (Agree.refl _ _)
theorem EnNew.agree {A : Nat} {w w2 : World} {v : Value} {e : En} (h : EnNew A w v e) (ha : Agree A w w2) : EnNew A w2 v e := fun w3 h3 => h w3 (ha.trans h3)
theorem Tx.agree {w w2 : World} {p A B : Nat} {v : Value} {t : List Nat} (h : Tx w p A B v t) (ha : Agree A w w2) : Src w2 v t := by
  by_cases h0 : t = []
  · subst h0
    exact h.1.empty w2
  · obtain ⟨g, hg, hA, _, _⟩ := h.2 h0
    obtain ⟨hs, ⟨rfl, rfl⟩ | ⟨_, _, rfl, rfl⟩ | ⟨b, o, c, rfl, hc, hr⟩⟩ := h.1
    · exact absurd rfl h0
    · exact absurd rfl h0
    · cases hg
      exact ⟨hs, .inr (.inr ⟨b, o, c, rfl, hc, range_kept hr (ha.1 b hA (range_lt hr (ints_ne h0)))⟩)⟩
/-- What Decode tells. -/
def DecSays (l : List Nat) (w : World) (e : Ending) (w' : World) : Prop :=
  Below w.heap.size w w' ∧ ((∃ E v, dec false l = some E ∧ e = .returned (.tuple #[v, .int .i64 0]) ∧ EnNew w.heap.size w' v E) ∨ (dec false l = none ∧ e = .returned (.tuple #[.agg z9, .int .i64 10])))
theorem results_row2 {P : Program} {fn : Func} {p u : Tmp} {ty : TypeId} (h : fn.results = #[.cell p ty, .tmp u]) (tmps : Array Value) (w : World) (g : Nat) (t : TypeId) (cs : Array Value) (fr : Nat × Nat) (d : TypeDesc)
    (hp : tmps.getD p undef = .pointer (some ⟨g, 0, none⟩)) (hg : w.heap[g]? = some (.cells cs t fr))
    (hu : P.underlying ty = some d) (hd : (match d with | .struct _ | .array _ _ => true | _ => false) = true) (hi : (P.info? ty).map (·.size) = some cs.size) :
    (results fn tmps).run P w = .ok (.tuple #[.agg cs, tmps.getD u undef]) w := by
  rw [results_cell_tmp h]
  have hp' : tmps[p]?.getD undef = .pointer (some ⟨g, 0, none⟩) := by simpa using hp
  simp [hp', asAddr, run_loadVar_row w g t ty cs fr d hg hu hd hi, Result.andThen]
theorem row9 {w : World} {b : Nat} {t : TypeId} {x0 x1 x2 x3 x4 x5 x6 x7 x8 : Value} (h : w.heap[b]? = some (.cells #[x0, x1, x2, x3, x4, x5, x6, x7, x8] t (0, 0))) (v0 v1 v2 v3 v4 v5 v6 v7 v8 : Value) :
    (((((((((w.setCell ⟨b, 0, none⟩ v0).setCell ⟨b, 1, none⟩ v1).setCell ⟨b, 2, none⟩ v2).setCell ⟨b, 3, none⟩ v3).setCell ⟨b, 4, none⟩ v4).setCell ⟨b, 5, none⟩ v5).setCell ⟨b, 6, none⟩ v6).setCell ⟨b, 7, none⟩ v7).setCell ⟨b, 8, none⟩ v8).heap[b]? = some (.cells #[v0, v1, v2, v3, v4, v5, v6, v7, v8] t (0, 0)) := by
  have k0 : (w.setCell ⟨b, 0, none⟩ v0).heap[b]? = some (.cells #[v0, x1, x2, x3, x4, x5, x6, x7, x8] t (0, 0)) := heap_setCell_same _ b 0 _ t v0 h
  have k1 : ((w.setCell ⟨b, 0, none⟩ v0).setCell ⟨b, 1, none⟩ v1).heap[b]? = some (.cells #[v0, v1, x2, x3, x4, x5, x6, x7, x8] t (0, 0)) := heap_setCell_same _ b 1 _ t v1 k0
  have k2 : (((w.setCell ⟨b, 0, none⟩ v0).setCell ⟨b, 1, none⟩ v1).setCell ⟨b, 2, none⟩ v2).heap[b]? = some (.cells #[v0, v1, v2, x3, x4, x5, x6, x7, x8] t (0, 0)) := heap_setCell_same _ b 2 _ t v2 k1
  have k3 : ((((w.setCell ⟨b, 0, none⟩ v0).setCell ⟨b, 1, none⟩ v1).setCell ⟨b, 2, none⟩ v2).setCell ⟨b, 3, none⟩ v3).heap[b]? = some (.cells #[v0, v1, v2, v3, x4, x5, x6, x7, x8] t (0, 0)) := heap_setCell_same _ b 3 _ t v3 k2
  have k4 : (((((w.setCell ⟨b, 0, none⟩ v0).setCell ⟨b, 1, none⟩ v1).setCell ⟨b, 2, none⟩ v2).setCell ⟨b, 3, none⟩ v3).setCell ⟨b, 4, none⟩ v4).heap[b]? = some (.cells #[v0, v1, v2, v3, v4, x5, x6, x7, x8] t (0, 0)) := heap_setCell_same _ b 4 _ t v4 k3
  have k5 : ((((((w.setCell ⟨b, 0, none⟩ v0).setCell ⟨b, 1, none⟩ v1).setCell ⟨b, 2, none⟩ v2).setCell ⟨b, 3, none⟩ v3).setCell ⟨b, 4, none⟩ v4).setCell ⟨b, 5, none⟩ v5).heap[b]? = some (.cells #[v0, v1, v2, v3, v4, v5, x6, x7, x8] t (0, 0)) := heap_setCell_same _ b 5 _ t v5 k4
  have k6 : (((((((w.setCell ⟨b, 0, none⟩ v0).setCell ⟨b, 1, none⟩ v1).setCell ⟨b, 2, none⟩ v2).setCell ⟨b, 3, none⟩ v3).setCell ⟨b, 4, none⟩ v4).setCell ⟨b, 5, none⟩ v5).setCell ⟨b, 6, none⟩ v6).heap[b]? = some (.cells #[v0, v1, v2, v3, v4, v5, v6, x7, x8] t (0, 0)) := heap_setCell_same _ b 6 _ t v6 k5
  have k7 : ((((((((w.setCell ⟨b, 0, none⟩ v0).setCell ⟨b, 1, none⟩ v1).setCell ⟨b, 2, none⟩ v2).setCell ⟨b, 3, none⟩ v3).setCell ⟨b, 4, none⟩ v4).setCell ⟨b, 5, none⟩ v5).setCell ⟨b, 6, none⟩ v6).setCell ⟨b, 7, none⟩ v7).heap[b]? = some (.cells #[v0, v1, v2, v3, v4, v5, v6, v7, x8] t (0, 0)) := heap_setCell_same _ b 7 _ t v7 k6
  have k8 : (((((((((w.setCell ⟨b, 0, none⟩ v0).setCell ⟨b, 1, none⟩ v1).setCell ⟨b, 2, none⟩ v2).setCell ⟨b, 3, none⟩ v3).setCell ⟨b, 4, none⟩ v4).setCell ⟨b, 5, none⟩ v5).setCell ⟨b, 6, none⟩ v6).setCell ⟨b, 7, none⟩ v7).setCell ⟨b, 8, none⟩ v8).heap[b]? = some (.cells #[v0, v1, v2, v3, v4, v5, v6, v7, v8] t (0, 0)) := heap_setCell_same _ b 8 _ t v8 k7
  exact k8
theorem bel9 {w0 w : World} {b A : Nat} (h : Below A w0 w) (hb : A ≤ b) (v0 v1 v2 v3 v4 v5 v6 v7 v8 : Value) : Below A w0 (((((((((w.setCell ⟨b, 0, none⟩ v0).setCell ⟨b, 1, none⟩ v1).setCell ⟨b, 2, none⟩ v2).setCell ⟨b, 3, none⟩ v3).setCell ⟨b, 4, none⟩ v4).setCell ⟨b, 5, none⟩ v5).setCell ⟨b, 6, none⟩ v6).setCell ⟨b, 7, none⟩ v7).setCell ⟨b, 8, none⟩ v8) :=
  (((((((((h.setCell (p := ⟨b, 0, none⟩) hb v0).setCell (p := ⟨b, 1, none⟩) hb v1).setCell (p := ⟨b, 2, none⟩) hb v2).setCell (p := ⟨b, 3, none⟩) hb v3).setCell (p := ⟨b, 4, none⟩) hb v4).setCell (p := ⟨b, 5, none⟩) hb v5).setCell (p := ⟨b, 6, none⟩) hb v6).setCell (p := ⟨b, 7, none⟩) hb v7).setCell (p := ⟨b, 8, none⟩) hb v8)
theorem dec_none1 {l : List Nat} {E : En} {s : Sta} (hd : decE false (l, false) = (E, s)) (he : (!s.2 && decide (s.1 = [])) = false) : dec false l = none := by
  unfold dec
  rw [hd]
  simp only
  rw [if_neg]
  rintro ⟨h1, h2, _⟩
  simp [h1, h2] at he
theorem dec_none2 {l : List Nat} {E : En} {s : Sta} (hd : decE false (l, false) = (E, s)) (hr : right E = false) : dec false l = none := by
  unfold dec
  rw [hd]
  simp [hr]
theorem dec_some {l : List Nat} {E : En} {s : Sta} (hd : decE false (l, false) = (E, s)) (he : (!s.2 && decide (s.1 = [])) = true) (hr : right E = true) : dec false l = some E := by
  unfold dec
  rw [hd]
  simp at he
  simp [hr, he]
theorem rT_le {s s' : Sta} {t : List Nat} (h : rT 0 4096 s = (t, s')) : t.length ≤ 9223372036854775807 := by
  unfold rT at h
  split at h
  · cases h
    simp
  · cases h
    rw [List.length_take]
    omega
theorem decE_hd {l : List Nat} {k a b : Int} {s1 s2 s3 : Sta} (H1 : rN 0 1099511627776 (l, false) = (k, s1)) (H2 : rN 1 16 s1 = (a, s2)) (H3 : rN 0 1099511627776 s2 = (b, s3)) : decE false (l, false) = tl false k a b s3 := by
  unfold decE hd lo1 hiK
  simp [H1, H2, H3]
theorem DecSays.no {l : List Nat} {w w' : World} (hb : Below w.heap.size w w') (hd : dec false l = none) : DecSays l w (.returned (.tuple #[.agg z9, .int .i64 10])) w' := ⟨hb, .inr ⟨hd, rfl⟩⟩
theorem DecSays.yes {l : List Nat} {w w' : World} {v : Value} {E : En} (hb : Below w.heap.size w w') (hd : dec false l = some E) (he : EnNew w.heap.size w' v E) : DecSays l w (.returned (.tuple #[v, .int .i64 0])) w' := ⟨hb, .inl ⟨E, v, hd, rfl, he⟩⟩
theorem only9 (w : World) (b : Nat) (v0 v1 v2 v3 v4 v5 v6 v7 v8 : Value) : Only [b] w (((((((((w.setCell ⟨b, 0, none⟩ v0).setCell ⟨b, 1, none⟩ v1).setCell ⟨b, 2, none⟩ v2).setCell ⟨b, 3, none⟩ v3).setCell ⟨b, 4, none⟩ v4).setCell ⟨b, 5, none⟩ v5).setCell ⟨b, 6, none⟩ v6).setCell ⟨b, 7, none⟩ v7).setCell ⟨b, 8, none⟩ v8) :=
  (((((((((Only.setCell _ _ _ (by simp)).trans (Only.setCell _ _ _ (by simp))).trans (Only.setCell _ _ _ (by simp))).trans (Only.setCell _ _ _ (by simp))).trans (Only.setCell _ _ _ (by simp))).trans (Only.setCell _ _ _ (by simp))).trans (Only.setCell _ _ _ (by simp))).trans (Only.setCell _ _ _ (by simp))).trans (Only.setCell _ _ _ (by simp)))
theorem EnNew.last {A : Nat} {w w' : World} {v : Value} {e : En} (h : EnNew (A + 1) w v e) (ho : Only [A] w w') : EnNew A w' v e := fun w2 ha =>
  h w2 ⟨fun k hk hl => (ha.1 k (by omega) (Nat.lt_of_lt_of_le hl ho.size)).trans (ho.block k hl (by simp; omega)), Nat.le_trans ho.size ha.2⟩
end Go.Proofs.YtfjdaafckiefdaaGreatDoor.E9
/- Wraps that are read one by one into a row of one's own; the steps of the region in which that is done. -/
namespace Go.Proofs.YtfjdaafckiefdaaGreatDoor.E9
open Go.RowKit C8
/-- Cells that are wraps, two each. -/
def AreW (w : World) (p A B : Nat) : List Value → List (Int × List Nat) → Prop
  | [], [] => True
  | c1 :: c2 :: xs, x :: ws => (c1 = .int .i64 x.1 ∧ (∃ tp tc, c2 = .slice tp x.2.length tc ∧ Tx w p A B c2 x.2) ∧ x.2.length ≤ 9223372036854775807) ∧ AreW w p A B xs ws
  | [], _ :: _ => False
  | [_], _ => False
  | _ :: _ :: _, [] => False
section
variable {w w' : World} {p A B : Nat}
theorem AreW.turn (ht : ∀ v t, Tx w p A B v t → Tx w' p A B v t) : ∀ {xs : List Value} {ws : List (Int × List Nat)}, AreW w p A B xs ws → AreW w' p A B xs ws
  | [], [], _ => trivial
  | _ :: _ :: _, _ :: _, ⟨⟨h1, ⟨tp, tc, h2, h3⟩, h4⟩, h5⟩ => ⟨⟨h1, ⟨tp, tc, h2, ht _ _ h3⟩, h4⟩, AreW.turn ht h5⟩
theorem AreW.snoc : ∀ {xs : List Value} {ws : List (Int × List Nat)}, AreW w p A B xs ws → ∀ {n : Int} {t : List Nat} {tp : Option Addr} {tc : Nat}, Tx w p A B (.slice tp t.length tc) t → t.length ≤ 9223372036854775807 → AreW w p A B (xs ++ [.int .i64 n, .slice tp t.length tc]) (ws ++ [(n, t)])
  | [], [], _, _, _, tp, tc, h, hl => ⟨⟨rfl, ⟨tp, tc, rfl, h⟩, hl⟩, trivial⟩
  | _ :: _ :: _, _ :: _, h, _, _, _, _, hT, hl => ⟨h.1, AreW.snoc h.2 hT hl⟩
theorem AreW.at : ∀ {xs : List Value} {ws : List (Int × List Nat)}, AreW w p A B xs ws → ∀ j (hj : j < ws.length), ∃ tp tc, xs[j * 2]? = some (.int .i64 ws[j].1) ∧ xs[j * 2 + 1]? = some (.slice tp ws[j].2.length tc) ∧ Tx w p A B (.slice tp ws[j].2.length tc) ws[j].2 ∧ ws[j].2.length ≤ 9223372036854775807
  | [], [], _, j, hj => absurd hj (by simp)
  | _ :: _ :: _, _ :: _, ⟨⟨h1, ⟨tp, tc, h2, h3⟩, h4⟩, _⟩, 0, _ => ⟨tp, tc, by simp [h1], by simp [h2], by subst h2; exact h3, h4⟩
  | _ :: _ :: _, _ :: ws, ⟨_, h5⟩, j + 1, hj => by
    obtain ⟨tp, tc, k1, k2, k3, k4⟩ := AreW.at h5 j (by simpa using hj)
    refine ⟨tp, tc, ?_, ?_, by simpa using k3, by simpa using k4⟩
    · rw [show (j + 1) * 2 = j * 2 + 1 + 1 from by omega]
      simpa using k1
    · rw [show (j + 1) * 2 + 1 = j * 2 + 1 + 1 + 1 from by omega]
      simpa using k2
/-- The row, in any memory that agrees with this one from A on. -/
theorem AreW.row {xs : List Value} {ws : List (Int × List Nat)} {base n c : Nat} {q : Option Addr} (h : AreW w p A B xs ws) (hown : w.ownsRow base 100 2 (.slice q n c) n xs) (hA : A ≤ base) {w2 : World} (ha : Agree A w w2) (hn : ws.length = n) : WrRow w2 q ws := fun j hj => by
  obtain ⟨tp, tc, k1, k2, k3, k4⟩ := h.at j hj
  obtain ⟨hl, ⟨e, h0⟩ | ⟨g, cap, cur, e, hg, hh, hnc, hm, hc, ht⟩⟩ := hown
  · have hj' := (List.getElem?_eq_some_iff.1 k1).1
    omega
  · cases e
    have hgl := (Array.getElem?_eq_some_iff.1 hh).1
    have hh2 := (ha.1 g (Nat.le_trans hA hg) hgl).trans hh
    refine ⟨g, 0, tp, tc, rfl, Nat.lt_of_lt_of_le hgl ha.2, ?_, ?_, k3.agree ha, k4⟩
    · rw [cell_of_row _ _ _ _ _ _ hh2, Nat.zero_add]
      rw [← ht, List.getElem?_take_of_lt (by omega)] at k1
      simpa using k1
    · rw [cell_of_row _ _ _ _ _ _ hh2, Nat.zero_add]
      rw [← ht, List.getElem?_take_of_lt (by omega)] at k2
      simpa using k2
end
theorem info45e : ∃ i, Tryz.prog.info? 100 = some i ∧ i.size = 2 ∧ i.bytes = 32 ∧ i.zero = some (.agg #[.int .i64 0, .slice none 0 0]) := info_of (by kernel_rfl)
theorem info47e : ∃ i, Tryz.prog.info? 107 = some i ∧ i.size = 2 ∧ i.bytes = 32 ∧ i.zero = some (.agg #[.int .i64 0, .slice none 0 0]) := info_of (by kernel_rfl)
end Go.Proofs.YtfjdaafckiefdaaGreatDoor.E9
/- The region in which Decode reads one wrap and puts it behind the others: what stands between its operations, and its steps. -/
namespace Go.Proofs.YtfjdaafckiefdaaGreatDoor.E9
open Go.RowKit C8
/-- The blocks that the region may turn. -/
def rotB (p b8 : Nat) (sl : Value) : List Nat := p :: b8 :: sl.ownBlock.toList
theorem Tx.onlyL {w w' : World} {p A B : Nat} {v : Value} {t : List Nat} {bs : List Nat} (h : Tx w p A B v t) (ho : Only bs w w') (hbs : ∀ x ∈ bs, x = p ∨ B ≤ x) : Tx w' p A B v t := by
  refine ⟨?_, h.2⟩
  by_cases h0 : t = []
  · subst h0
    exact h.1.empty w'
  · obtain ⟨g, hg, _, hB, hp⟩ := h.2 h0
    refine h.1.only ho (fun b hb hm => ?_)
    rw [hg] at hb
    cases hb
    rcases hbs g hm with e | e
    · exact hp e
    · omega
/-- What an operation has left. -/
def RotV (p b8 A B : Nat) (sl : Value) (n : Int) (t : List Nat) : Nat → Value → World → Prop
  | 0 => IsV (.pointer (some ⟨b8, 8, none⟩))
  | 1 => IsV sl
  | 2 => IsV (.func (.func 112) #[] #[.pointer (some ⟨B, 0, none⟩)])
  | 3 => IsV (.int .i64 n)
  | 4 => IsV (.func (.func 113) #[] #[.pointer (some ⟨B, 0, none⟩)])
  | 5 => fun v u => ∃ tp tc, v = .slice tp t.length tc ∧ Tx u p A B (.slice tp t.length tc) t
  | 6 => fun v u => ∃ tp tc, v = .agg #[.int .i64 n, .slice tp t.length tc] ∧ Tx u p A B (.slice tp t.length tc) t
  | 7 => fun v u => ∃ g tp tc, v = .slice (some ⟨g, 0, none⟩) 1 1 ∧ u.heap[g]? = some (.cells #[.int .i64 n, .slice tp t.length tc] 100 (0, 0)) ∧ Tx u p A B (.slice tp t.length tc) t ∧ g ∉ rotB p b8 sl
  | 9 => IsV (.pointer (some ⟨b8, 8, none⟩))
  | _ => fun _ _ => True
theorem RotV.kept {p b8 A B : Nat} {sl : Value} {n : Int} {t : List Nat} (hbs : ∀ x ∈ rotB p b8 sl, x = p ∨ B ≤ x) : ∀ i v w w', RotV p b8 A B sl n t i v w → Only (rotB p b8 sl) w w' → RotV p b8 A B sl n t i v w'
  | 0, _, _, _, h, _ => h
  | 1, _, _, _, h, _ => h
  | 2, _, _, _, h, _ => h
  | 3, _, _, _, h, _ => h
  | 4, _, _, _, h, _ => h
  | 5, _, _, _, ⟨tp, tc, h1, h2⟩, ho => ⟨tp, tc, h1, h2.onlyL ho hbs⟩
  | 6, _, _, _, ⟨tp, tc, h1, h2⟩, ho => ⟨tp, tc, h1, h2.onlyL ho hbs⟩
  | 7, _, _, _, ⟨g, tp, tc, h1, h2, h3, h4⟩, ho => ⟨g, tp, tc, h1, (ho.block g (Array.getElem?_eq_some_iff.1 h2).1 h4).trans h2, h3.onlyL ho hbs, h4⟩
  | 8, _, _, _, _, _ => trivial
  | 9, _, _, _, h, _ => h
  | _ + 10, _, _, _, _, _ => trivial
/-- What stands: behind so many of its four events. -/
def RotR (w : World) (p B b8 : Nat) (CE : Value → Array Value) (sl : Value) (s s' s'' : Sta) (j : Nat) (xs : List Value) (ws ws' : List (Int × List Nat)) : Nat → Value → World → Prop
  | 0, _, u => D4 w u p B s ∧ u.heap[b8]? = some (.cells (CE sl) 49 (0, 0)) ∧ u.ownsRow (b8 + 1) 100 2 sl j xs ∧ AreW u p (w.heap.size + 1) B xs ws
  | 1, _, u => D4 w u p B s' ∧ u.heap[b8]? = some (.cells (CE sl) 49 (0, 0)) ∧ u.ownsRow (b8 + 1) 100 2 sl j xs ∧ AreW u p (w.heap.size + 1) B xs ws
  | 2, _, u => D4 w u p B s'' ∧ u.heap[b8]? = some (.cells (CE sl) 49 (0, 0)) ∧ u.ownsRow (b8 + 1) 100 2 sl j xs ∧ AreW u p (w.heap.size + 1) B xs ws
  | 3, v, u => D4 w u p B s'' ∧ u.heap[b8]? = some (.cells (CE sl) 49 (0, 0)) ∧ ∃ xs2, u.ownsRow (b8 + 1) 100 2 v (j + 1) xs2 ∧ AreW u p (w.heap.size + 1) B xs2 ws'
  | _, _, u => D4 w u p B s'' ∧ ∃ v xs2, u.heap[b8]? = some (.cells (CE v) 49 (0, 0)) ∧ u.ownsRow (b8 + 1) 100 2 v (j + 1) xs2 ∧ AreW u p (w.heap.size + 1) B xs2 ws'
theorem rotR_below {w : World} {p B b8 : Nat} {CE : Value → Array Value} {sl : Value} {s s' s'' : Sta} {j : Nat} {xs : List Value} {ws ws' : List (Int × List Nat)} : ∀ k v u u', Below u.heap.size u u' → RotR w p B b8 CE sl s s' s'' j xs ws ws' k v u → RotR w p B b8 CE sl s s' s'' j xs ws ws' k v u' := by
  have a1 : ∀ {s u u'}, Below u.heap.size u u' → D4 w u p B s → D4 w u' p B s := fun hb h => h.up (bel_le hb h.lt)
  have a2 : ∀ {u u' : World} {c : Array Value}, Below u.heap.size u u' → u.heap[b8]? = some (.cells c 49 (0, 0)) → u'.heap[b8]? = some (.cells c 49 (0, 0)) := fun hb h => (hb.block b8 (Array.getElem?_eq_some_iff.1 h).1).trans h
  have a3 : ∀ {u u' : World} {xs ws s}, D4 w u p B s → Below u.heap.size u u' → AreW u p (w.heap.size + 1) B xs ws → AreW u' p (w.heap.size + 1) B xs ws := fun hd hb h => h.turn (fun v t ht => ht.below (bel_le hb (Nat.le_of_lt hd.lt)))
  intro k v u u' hb h
  match k, h with
  | 0, ⟨h1, h2, h3, h4⟩ => exact ⟨a1 hb h1, a2 hb h2, own_below h3 hb, a3 h1 hb h4⟩
  | 1, ⟨h1, h2, h3, h4⟩ => exact ⟨a1 hb h1, a2 hb h2, own_below h3 hb, a3 h1 hb h4⟩
  | 2, ⟨h1, h2, h3, h4⟩ => exact ⟨a1 hb h1, a2 hb h2, own_below h3 hb, a3 h1 hb h4⟩
  | 3, ⟨h1, h2, xs2, h3, h4⟩ => exact ⟨a1 hb h1, a2 hb h2, xs2, own_below h3 hb, a3 h1 hb h4⟩
  | _ + 4, ⟨h1, v2, xs2, h2, h3, h4⟩ => exact ⟨a1 hb h1, v2, xs2, a2 hb h2, own_below h3 hb, a3 h1 hb h4⟩
/-- Which operations have been, and what stands. -/
def RotS (R : Nat → Value → World → Prop) (f : Nat → Bool) (a : Act) (w : World) : Prop := (f 8 = true → f 1 = true) ∧ SeqS [3, 5, 8, 10] (fun k u => R k (a.tmps.getD 66 undef) u) f w
section
variable {P : Program} {ops : Array Oper} {Q : Exit → Act → World → Prop} {V : Nat → Value → World → Prop} {bs : List Nat} {R : Nat → Value → World → Prop} {f : Nat → Bool} {i k : Nat} {o : Oper} {a' : Act} {w' w'' : World}
theorem rot_start {a : Act} {w : World} (h : ∀ x, R 0 x w) : RotS R (fun _ => false) a w := ⟨fun h => (by cases h), SeqS.start (h _)⟩
theorem rot_quiet (v : Value) (hi : ops[i]? = some o) (hw : Region.wanted o (yielded ops a'.tmps) = true) (hr : (execOp a'.eval o).run P w' = .ok (.value v) w'') (hb : Below w'.heap.size w' w'') (hn : i ∉ [3, 5, 8, 10]) (hd : o.dst ≠ some 66)
    (hS : RotS R f a' w') (hR : ∀ k v u u', Below u.heap.size u u' → R k v u → R k v u') (hv : V i v w'') :
    wpOp P ops Q i (fun a'' w2 => Only bs w' w2 ∧ RotS R (fun j => if j = i then true else f j) a'' w2 ∧ ∃ v, a'' = a'.put o.dst v ∧ V i v w2) a' w' := by
  refine wpOp_value v hi hw hr ⟨Only.of_below hb _, ⟨fun h => ?_, ?_⟩, v, rfl, hv⟩
  · have h8 : f 8 = true := by
      have : ¬ (8 = i) := fun e => hn (by rw [← e]; decide)
      simpa [this] using h
    show (if 1 = i then true else f 1) = true
    split
    · rfl
    · exact hS.1 h8
  · rw [getD_put _ _ _ _ hd]
    exact hS.2.quiet hn (fun k => hR k _ w' w'' hb)
theorem rot_call (fn : FuncId) (args : Array Value) (hi : ops[i]? = some o) (hw : Region.wanted o (yielded ops a'.tmps) = true) (hr : (execOp a'.eval o).run P w' = .ok (.enter fn args) w') (hk : [3, 5, 8, 10][k]? = some i) (hf : f i = false) (hp : ∀ c, k ≠ 0 → [3, 5, 8, 10][k - 1]? = some c → f c = true) (h8 : i ≠ 8) (hd : o.dst ≠ some 66)
    (hS : RotS R f a' w') (h : R k (a'.tmps.getD 66 undef) w' → Calls P fn args w' fun e w2 => ∃ v, e = .returned v ∧ Only bs w' w2 ∧ R (k + 1) (a'.tmps.getD 66 undef) w2 ∧ V i v w2) :
    wpOp P ops Q i (fun a'' w2 => Only bs w' w2 ∧ RotS R (fun j => if j = i then true else f j) a'' w2 ∧ ∃ v, a'' = a'.put o.dst v ∧ V i v w2) a' w' := by
  obtain ⟨h1, h2⟩ := hS.2.at hk hf hp
  refine wpOp_call fn args hi hw hr ((h h1).mono fun _ _ ⟨v, he, hg, hR, hv⟩ => ⟨v, he, hg, ⟨fun h => ?_, ?_⟩, v, rfl, hv⟩)
  · have h9 : f 8 = true := by simpa [Ne.symm h8] using h
    show (if 1 = i then true else f 1) = true
    split
    · rfl
    · exact hS.1 h9
  · rw [getD_put _ _ _ _ hd]
    exact SeqS.next hk (by decide) h2 hR
theorem getD_put_self (a : Act) (v : Value) (t : Tmp) (h : t < a.tmps.size) : (a.put (some t) v).tmps.getD t undef = v := by simp [Act.put, h]
theorem rot_app (v : Value) (hi : ops[8]? = some o) (hw : Region.wanted o (yielded ops a'.tmps) = true) (hr : (execOp a'.eval o).run P w' = .ok (.value v) w'') (ho : Only bs w' w'') (hf : f 8 = false) (h5 : f 5 = true) (h1 : f 1 = true) (hd : o.dst = some 66) (hsz : 66 < a'.tmps.size)
    (hS : RotS R f a' w') (hR : R 3 v w'') (hv : V 8 v w'') :
    wpOp P ops Q 8 (fun a'' w2 => Only bs w' w2 ∧ RotS R (fun j => if j = 8 then true else f j) a'' w2 ∧ ∃ v, a'' = a'.put o.dst v ∧ V 8 v w2) a' w' := by
  obtain ⟨_, h2⟩ := hS.2.at (k := 2) (i := 8) rfl hf (fun c _ hc => by cases hc; exact h5)
  refine wpOp_value v hi hw hr ⟨ho, ⟨fun _ => ?_, ?_⟩, v, rfl, hv⟩
  · exact h1
  · rw [hd, getD_put_self _ _ _ hsz]
    exact SeqS.next (k := 2) rfl (by decide) h2 hR
theorem wpOp_skip {K : Act → World → Prop} (hi : ops[i]? = some o) (hw : Region.wanted o (yielded ops a'.tmps) = true) (hr : (execOp a'.eval o).run P w' = .ok .skip w'') (h : K (a'.put o.dst undef) w'') : wpOp P ops Q i K a' w' := by
  unfold wpOp
  simp only [hi, hw, if_true]
  refine .inl ?_
  unfold Oper.wp
  rw [hr]
  exact h
theorem rot_sto (hi : ops[10]? = some o) (hw : Region.wanted o (yielded ops a'.tmps) = true) (hr : (execOp a'.eval o).run P w' = .ok .skip w'') (ho : Only bs w' w'') (hf : f 10 = false) (h8 : f 8 = true) (hd : o.dst = none)
    (hS : RotS R f a' w') (hR : R 4 (a'.tmps.getD 66 undef) w'') (hv : V 10 undef w'') :
    wpOp P ops Q 10 (fun a'' w2 => Only bs w' w2 ∧ RotS R (fun j => if j = 10 then true else f j) a'' w2 ∧ ∃ v, a'' = a'.put o.dst v ∧ V 10 v w2) a' w' := by
  obtain ⟨_, h2⟩ := hS.2.at (k := 3) (i := 10) rfl hf (fun c _ hc => by cases hc; exact h8)
  refine wpOp_skip hi hw hr ⟨ho, ⟨fun h => ?_, ?_⟩, undef, rfl, hv⟩
  · exact hS.1 (by simpa using h)
  · rw [hd]
    exact SeqS.next (k := 3) rfl (by decide) h2 hR
/-- What stands ahead of the append. -/
theorem rot_three (hS : RotS R f a' w') (hf : f 10 = false) (h8 : f 8 = true) : R 3 (a'.tmps.getD 66 undef) w' := (hS.2.at (k := 3) (i := 10) rfl hf (fun c _ hc => by cases hc; exact h8)).1
theorem rot_two (hS : RotS R f a' w') (hf : f 8 = false) (h5 : f 5 = true) : R 2 (a'.tmps.getD 66 undef) w' := (hS.2.at (k := 2) (i := 8) rfl hf (fun c _ hc => by cases hc; exact h5)).1
theorem rot_early (hS : RotS R f a' w') (hf : f 1 = false) : ∃ k, k ≤ 2 ∧ R k (a'.tmps.getD 66 undef) w' := by
  have h8 : f 8 = false := by
    cases h : f 8 with
    | false => rfl
    | true => rw [hS.1 h] at hf; cases hf
  obtain ⟨k, _, h2, h3⟩ := hS.2
  refine ⟨k, ?_, h3⟩
  have := h2 2 8 rfl
  rw [h8] at this
  have h4 : ¬ 2 < k := fun h => by have := this.2 h; cases this
  omega
end
section
variable {o : Oper} {a' : Act} {w' : World}
theorem clo_run (fn : Nat) (t : Tmp) (c : Value) (ho : o.op = .call { callee := .value (.tmp t), args := #[], argTypes := #[] }) (h0 : a'.tmps.getD t undef = .func (.func fn) #[] #[c]) (hc : (callFunc fn #[c]).run Tryz.prog w' = .ok (.enter fn #[c]) w') :
    (execOp a'.eval o).run Tryz.prog w' = .ok (.enter fn #[c]) w' := by
  have he : a'.eval (.tmp t) = .func (.func fn) #[] #[c] := h0
  unfold execOp
  simp only [ho]
  generalize a'.eval = r at *
  simp [resolve, invoke, he, go_sem, hc]
theorem bw_run (t u : Tmp) (n : Int) (p : Option Addr) (l c : Nat) (ho : o.op = .build 100 #[(0, .tmp t), (1, .tmp u)]) (h0 : a'.tmps.getD t undef = .int .i64 n) (h1 : a'.tmps.getD u undef = .slice p l c) :
    (execOp a'.eval o).run Tryz.prog w' = .ok (.value (.agg #[.int .i64 n, .slice p l c])) w' := by
  have he : a'.eval (.tmp t) = .int .i64 n := h0
  have hf : a'.eval (.tmp u) = .slice p l c := h1
  unfold execOp
  simp only [ho]
  generalize a'.eval = r at *
  simp [he, hf, go_sem]
theorem bs_run (t : Tmp) (n : Int) (p : Option Addr) (l c : Nat) (ho : o.op = .buildSlice 47 1 #[(0, .tmp t)]) (h0 : a'.tmps.getD t undef = .agg #[.int .i64 n, .slice p l c]) :
    (execOp a'.eval o).run Tryz.prog w' = .ok (.value (.slice (some ⟨w'.heap.size, 0, none⟩) 1 1)) (w'.alloc (.cells #[.int .i64 n, .slice p l c] 100)) := by
  have he : a'.eval (.tmp t) = .agg #[.int .i64 n, .slice p l c] := h0
  unfold execOp
  simp only [ho]
  generalize a'.eval = r at *
  simp [he, go_sem]
theorem call30 (c : Value) (w : World) : (callFunc 112 #[c]).run Tryz.prog w = .ok (.enter 112 #[c]) w := by kernel_rfl
theorem call31 (c : Value) (w : World) : (callFunc 113 #[c]).run Tryz.prog w = .ok (.enter 113 #[c]) w := by kernel_rfl
theorem fa25_8 (b : Nat) (w : World) : (Instr.fieldAt 49 (.pointer (some ⟨b, 0, none⟩)) 8).run Tryz.prog w = .ok (.pointer (some ⟨b, 8, none⟩)) w := by simp [go_sem]
theorem ld23 {b k : Nat} {q : Option Addr} {n c : Nat} {w : World} (h : w.cell? ⟨b, k, none⟩ = some (.slice q n c)) : (Instr.loadAt 47 (.pointer (some ⟨b, k, none⟩))).run Tryz.prog w = .ok (.slice q n c) w := by simp [go_sem, h]
theorem st_run (t u : Tmp) (b k : Nat) (q : Option Addr) (n c : Nat) (x : Value) (ho : o.op = .store 47 (.tmp t) (.tmp u)) (h0 : a'.tmps.getD t undef = .pointer (some ⟨b, k, none⟩)) (h1 : a'.tmps.getD u undef = .slice q n c) (hc : w'.cell? ⟨b, k, none⟩ = some x) (hf : w'.frozen? ⟨b, k, none⟩ = false) :
    (execOp a'.eval o).run Tryz.prog w' = .ok .skip (w'.setCell ⟨b, k, none⟩ (.slice q n c)) := by
  have he : a'.eval (.tmp t) = .pointer (some ⟨b, k, none⟩) := h0
  have hg : a'.eval (.tmp u) = .slice q n c := h1
  unfold execOp
  simp only [ho]
  generalize a'.eval = r at *
  simp [he, hg, go_sem, hc, hf]
end
theorem app_run {o : Oper} {a' : Act} {w' : World} (t u : Tmp) (base j : Nat) (sl : Value) (xs : List Value) (g : Nat) (n : Int) (p : Option Addr) (l c : Nat) (ho : o.op = .call { callee := .builtin .append, args := #[.tmp t, .tmp u], argTypes := #[47, 47] }) (h0 : a'.tmps.getD t undef = sl) (h1 : a'.tmps.getD u undef = .slice (some ⟨g, 0, none⟩) 1 1)
    (hown : w'.ownsRow base 100 2 sl j xs) (hg : w'.heap[g]? = some (.cells #[.int .i64 n, .slice p l c] 100 (0, 0))) (hj : j ≤ 100) (hb : base ≤ w'.heap.size) :
    ∃ v w'', (execOp a'.eval o).run Tryz.prog w' = .ok (.value v) w'' ∧ w''.ownsRow base 100 2 v (j + 1) (xs ++ [.int .i64 n, .slice p l c]) ∧ w'.grownBy w'' sl.ownBlock := by
  have he : a'.eval (.tmp t) = sl := h0
  have hf : a'.eval (.tmp u) = .slice (some ⟨g, 0, none⟩) 1 1 := h1
  obtain ⟨i, hi, hsz, hby, hz⟩ := info45e
  obtain ⟨v, w'', hr, k1, k2, _, _⟩ := run_append_own_at (P := Tryz.prog) w' base 47 o.type 100 i _ 2 32 Tryz.underlying47 hi hz hsz hby rfl (by decide) sl j xs hown ⟨g, 0, none⟩ 1 1 [.int .i64 n, .slice p l c] rfl (fun m y hy => by rw [Addr.add_mid, Nat.zero_add, cell_of_row _ _ _ _ _ _ hg]; simpa using hy) (fun y hy => (List.mem_cons.1 hy).elim (fun e => by rw [e]; rfl) (fun e => by rw [List.mem_singleton.1 e]; rfl)) (by unfold maxLen; omega) (by omega) hb
  refine ⟨v, w'', ?_, k1, k2⟩
  unfold execOp
  simp only [ho, resolve, invoke, builtin, Sem.run_bind, Sem.run_pure, Result.andThen_ok, List.map_toArray, List.map_cons, List.map_nil, he, hf, hr]
end Go.Proofs.YtfjdaafckiefdaaGreatDoor.E9
