/- Decode: what stands while it reads, what it tells; links that are read one by one into a row of one's own. -/
import Derived.Test.YtchoiioeeepoaaaF17Enc
import Derived.Test.YtchoiioeeepoaaaE9Rd
import Derived.Test.YtchoiioeeepoaaaSt2
import Derived.Laws.ResultCell
namespace Go.Proofs.Ytchoiioeeepoaaa.F17
open Go.RowKit C8 E9
/-- The five cells of no frame. -/
def z5 : Array Value := #[.int .i64 0, .int .i64 0, .int .i64 0, .slice none 0 0, .slice none 0 0]
/-- The reader at p, whose bytes lie below B; the result's place. -/
structure D4 (w W : World) (p B : Nat) (s : Sta) : Prop where
  rd : RdS W p (w.heap.size + 1) B s
  at2 : W.heap[w.heap.size]? = some (.cells z5 34 (0, 0))
  bel : Below w.heap.size w W
  lo : w.heap.size < p
  hi : p < B
  lt : B ≤ W.heap.size
section
variable {w W W' : World} {p B : Nat} {s s' : Sta}
theorem D4.read (h : D4 w W p B s) (hr : RdS W' p (w.heap.size + 1) B s') (ho : Only [p] W W') : D4 w W' p B s' :=
  ⟨hr, (ho.block _ (Nat.lt_of_lt_of_le (Nat.lt_trans h.lo h.hi) h.lt) (by have := h.lo; simp; omega)).trans h.at2, h.bel.trans (ho.below h.bel.size (by have := h.lo; simp; omega)), h.lo, h.hi, Nat.le_trans h.lt ho.size⟩
theorem D4.up (h : D4 w W p B s) (hb : Below B W W') : D4 w W' p B s :=
  ⟨h.rd.below hb, (hb.block _ (by have := h.lo; have := h.hi; omega)).trans h.at2, h.bel.trans (bel_le hb (by have := h.lo; have := h.hi; omega)), h.lo, h.hi, Nat.le_trans h.lt hb.size⟩
theorem D4.start {w1 : World} (h0 : Below (w.alloc (.cells z5 34)).heap.size (w.alloc (.cells z5 34)) w1) (hr : RdS w1 p (w.alloc (.cells z5 34)).heap.size w1.heap.size s) (h1 : (w.alloc (.cells z5 34)).heap.size ≤ p) (h2 : p < w1.heap.size) :
    D4 w w1 p w1.heap.size s := by
  have hz : (w.alloc (.cells z5 34)).heap.size = w.heap.size + 1 := by simp
  rw [hz] at hr
  refine ⟨hr, ?_, (bel_alloc (Nat.le_refl _) _).trans (bel_le h0 (by omega)), by omega, h2, Nat.le_refl _⟩
  rw [h0.block _ (by omega)]
  exact heap_alloc_new w _
theorem cNum (h : Hid (D4 w W p B s)) {lo hi n : Int} (he : Hid (rN lo hi s = (n, s'))) : Calls Try.prog 36 #[.pointer (some ⟨p, 0, none⟩), .int .i64 lo, .int .i64 hi] W fun e w' => e = .returned (.int .i64 n) ∧ Hid (D4 w w' p B s') ∧ Hid (Only [p] W w') :=
  (number_any W p (w.heap.size + 1) B s s' lo hi n h.out.rd he).mono (by rintro e w' ⟨rfl, h1, h2⟩; exact ⟨rfl, h.out.read h1 h2, h2⟩)
theorem cTxt (h : Hid (D4 w W p B s)) {lo hi : Int} {t : List Nat} (he : Hid (rT lo hi s = (t, s'))) : Calls Try.prog 37 #[.pointer (some ⟨p, 0, none⟩), .int .i64 lo, .int .i64 hi] W fun e w' => ∃ tp tc, e = .returned (.slice tp t.length tc) ∧ Hid (Tx w' p (w.heap.size + 1) B (.slice tp t.length tc) t) ∧ Hid (D4 w w' p B s') ∧ Hid (Only [p] W w') :=
  (text_any W p (w.heap.size + 1) B s s' lo hi t h.out.rd he).mono (by rintro e w' ⟨tp, tc, rfl, h0, h1, h2⟩; exact ⟨tp, tc, rfl, h0, h.out.read h1 h2, h2⟩)
theorem cEnd (h : Hid (D4 w W p B s)) {en : Bool} (he : Hid ((!s.2 && decide (s.1 = [])) = en)) : Calls Try.prog 38 #[.pointer (some ⟨p, 0, none⟩)] W fun e w' => e = .returned (.bool en) ∧ W = w' :=
  (end_any W p (w.heap.size + 1) B s h.out.rd).mono (by rintro e w' ⟨rfl, rfl⟩; exact ⟨by rw [he.out], rfl⟩)
end
/-- The blocks from A on are as they were. -/
def Agree (A : Nat) (w w2 : World) : Prop := (∀ k, A ≤ k → k < w.heap.size → w2.heap[k]? = w.heap[k]?) ∧ w.heap.size ≤ w2.heap.size
theorem Agree.refl (A : Nat) (w : World) : Agree A w w := ⟨fun _ _ _ => rfl, Nat.le_refl _⟩
theorem Agree.trans {A : Nat} {w w1 w2 : World} (h : Agree A w w1) (k : Agree A w1 w2) : Agree A w w2 := ⟨fun i hi hl => (k.1 i hi (Nat.lt_of_lt_of_le hl h.2)).trans (h.1 i hi hl), Nat.le_trans h.2 k.2⟩
theorem Agree.below {A : Nat} {w w1 : World} (h : Below w.heap.size w w1) : Agree A w w1 := ⟨fun i _ hl => h.block i hl, h.size⟩
/-- A frame whose memory lies from A on. -/
def FrNew (A : Nat) (w : World) (v : Value) (f : Fr) : Prop := ∀ w2, Agree A w w2 → FrIs w2 v f
theorem FrNew.is {A : Nat} {w : World} {v : Value} {f : Fr} (h : FrNew A w v f) : FrIs w v f := h w (Agree.refl _ _)
theorem FrNew.agree {A : Nat} {w w2 : World} {v : Value} {f : Fr} (h : FrNew A w v f) (ha : Agree A w w2) : FrNew A w2 v f := fun w3 h3 => h w3 (ha.trans h3)
theorem FrNew.last {A : Nat} {w w' : World} {v : Value} {f : Fr} (h : FrNew (A + 1) w v f) (ho : Only [A] w w') : FrNew A w' v f := fun w2 ha =>
  h w2 ⟨fun k hk hl => (ha.1 k (by omega) (Nat.lt_of_lt_of_le hl ho.size)).trans (ho.block k hl (by simp; omega)), Nat.le_trans ho.size ha.2⟩
theorem FrNew.zero (A : Nat) (w : World) : FrNew A w (.agg z5) ⟨0, 0, 0, [], []⟩ := fun w2 _ => zero_is w2
theorem Tx.agree {w w2 : World} {p A B : Nat} {v : Value} {t : List Nat} (h : Tx w p A B v t) (ha : Agree A w w2) : Src w2 v t := by
  by_cases h0 : t = []
  · subst h0
    exact h.1.empty w2
  · obtain ⟨g, hg, hA, _, _⟩ := h.2 h0
    obtain ⟨hs, ⟨rfl, rfl⟩ | ⟨_, _, rfl, rfl⟩ | ⟨b, o, c, rfl, hc, hr⟩⟩ := h.1
    · exact absurd rfl h0
    · exact absurd rfl h0
    · cases hg
      exact ⟨hs, .inr (.inr ⟨b, o, c, rfl, hc, range_kept hr (ha.1 b hA (range_lt hr (ints_ne h0)))⟩)⟩
theorem Tx.onlyL {w w' : World} {p A B : Nat} {v : Value} {t : List Nat} {bs : List Nat} (h : Tx w p A B v t) (ho : Only bs w w') (hbs : ∀ x ∈ bs, x = p ∨ B ≤ x) : Tx w' p A B v t := by
  refine ⟨?_, h.2⟩
  by_cases h0 : t = []
  · subst h0
    exact h.1.empty w'
  · obtain ⟨g, hg, _, hB, hp⟩ := h.2 h0
    refine h.1.only ho (fun b hb hm => ?_)
    rw [hg] at hb
    cases hb
    rcases hbs g hm with e | e
    · exact hp e
    · omega
theorem rT_le {lo hi : Int} {s s' : Sta} {t : List Nat} (hh : hi ≤ 9223372036854775807) (h : rT lo hi s = (t, s')) : t.length ≤ 9223372036854775807 := by
  unfold rT at h
  split at h
  · cases h
    simp
  · cases h
    rw [List.length_take]
    omega
/-- What Decode tells. -/
def DecSays (l : List Nat) (w : World) (e : Ending) (w' : World) : Prop :=
  Below w.heap.size w w' ∧ ((32768 < l.length ∧ e = .returned (.tuple #[.agg z5, .int .i64 11])) ∨ (l.length ≤ 32768 ∧ ((∃ F v, dec l = some F ∧ e = .returned (.tuple #[v, .int .i64 0]) ∧ FrNew w.heap.size w' v F) ∨ (dec l = none ∧ e = .returned (.tuple #[.agg z5, .int .i64 10])))))
theorem DecSays.no {l : List Nat} {w w' : World} (hl : l.length ≤ 32768) (hb : Below w.heap.size w w') (hd : dec l = none) : DecSays l w (.returned (.tuple #[.agg z5, .int .i64 10])) w' := ⟨hb, .inr ⟨hl, .inr ⟨hd, rfl⟩⟩⟩
theorem DecSays.yes {l : List Nat} {w w' : World} {v : Value} {F : Fr} (hl : l.length ≤ 32768) (hb : Below w.heap.size w w') (hd : dec l = some F) (he : FrNew w.heap.size w' v F) : DecSays l w (.returned (.tuple #[v, .int .i64 0])) w' := ⟨hb, .inr ⟨hl, .inl ⟨F, v, hd, rfl, he⟩⟩⟩
theorem DecSays.big {l : List Nat} {w w' : World} (hl : 32768 < l.length) (hb : Below w.heap.size w w') : DecSays l w (.returned (.tuple #[.agg z5, .int .i64 11])) w' := ⟨hb, .inl ⟨hl, rfl⟩⟩
theorem results_row2 {P : Program} {fn : Func} {p u : Tmp} {ty : TypeId} (h : fn.results = #[.cell p ty, .tmp u]) (tmps : Array Value) (w : World) (g : Nat) (t : TypeId) (cs : Array Value) (fr : Nat × Nat) (d : TypeDesc)
    (hp : tmps.getD p undef = .pointer (some ⟨g, 0, none⟩)) (hg : w.heap[g]? = some (.cells cs t fr))
    (hu : P.underlying ty = some d) (hd : (match d with | .struct _ | .array _ _ => true | _ => false) = true) (hi : (P.info? ty).map (·.size) = some cs.size) :
    (results fn tmps).run P w = .ok (.tuple #[.agg cs, tmps.getD u undef]) w := by
  rw [results_cell_tmp h]
  have hp' : tmps[p]?.getD undef = .pointer (some ⟨g, 0, none⟩) := by simpa using hp
  simp [hp', asAddr, run_loadVar_row w g t ty cs fr d hg hu hd hi, Result.andThen]
theorem row5 {w : World} {b : Nat} {t : TypeId} {x0 x1 x2 x3 x4 : Value} (h : w.heap[b]? = some (.cells #[x0, x1, x2, x3, x4] t (0, 0))) (v0 v1 v2 v3 v4 : Value) :
    (((((w.setCell ⟨b, 0, none⟩ v0).setCell ⟨b, 1, none⟩ v1).setCell ⟨b, 2, none⟩ v2).setCell ⟨b, 3, none⟩ v3).setCell ⟨b, 4, none⟩ v4).heap[b]? = some (.cells #[v0, v1, v2, v3, v4] t (0, 0)) := by
  have k0 : (w.setCell ⟨b, 0, none⟩ v0).heap[b]? = some (.cells #[v0, x1, x2, x3, x4] t (0, 0)) := heap_setCell_same _ b 0 _ t v0 h
  have k1 : ((w.setCell ⟨b, 0, none⟩ v0).setCell ⟨b, 1, none⟩ v1).heap[b]? = some (.cells #[v0, v1, x2, x3, x4] t (0, 0)) := heap_setCell_same _ b 1 _ t v1 k0
  have k2 : (((w.setCell ⟨b, 0, none⟩ v0).setCell ⟨b, 1, none⟩ v1).setCell ⟨b, 2, none⟩ v2).heap[b]? = some (.cells #[v0, v1, v2, x3, x4] t (0, 0)) := heap_setCell_same _ b 2 _ t v2 k1
  have k3 : ((((w.setCell ⟨b, 0, none⟩ v0).setCell ⟨b, 1, none⟩ v1).setCell ⟨b, 2, none⟩ v2).setCell ⟨b, 3, none⟩ v3).heap[b]? = some (.cells #[v0, v1, v2, v3, x4] t (0, 0)) := heap_setCell_same _ b 3 _ t v3 k2
  have k4 : (((((w.setCell ⟨b, 0, none⟩ v0).setCell ⟨b, 1, none⟩ v1).setCell ⟨b, 2, none⟩ v2).setCell ⟨b, 3, none⟩ v3).setCell ⟨b, 4, none⟩ v4).heap[b]? = some (.cells #[v0, v1, v2, v3, v4] t (0, 0)) := heap_setCell_same _ b 4 _ t v4 k3
  exact k4
theorem bel5 {w0 w : World} {b A : Nat} (h : Below A w0 w) (hb : A ≤ b) (v0 v1 v2 v3 v4 : Value) : Below A w0 (((((w.setCell ⟨b, 0, none⟩ v0).setCell ⟨b, 1, none⟩ v1).setCell ⟨b, 2, none⟩ v2).setCell ⟨b, 3, none⟩ v3).setCell ⟨b, 4, none⟩ v4) :=
  (((((h.setCell (p := ⟨b, 0, none⟩) hb v0).setCell (p := ⟨b, 1, none⟩) hb v1).setCell (p := ⟨b, 2, none⟩) hb v2).setCell (p := ⟨b, 3, none⟩) hb v3).setCell (p := ⟨b, 4, none⟩) hb v4)
theorem only5 (w : World) (b : Nat) (v0 v1 v2 v3 v4 : Value) : Only [b] w (((((w.setCell ⟨b, 0, none⟩ v0).setCell ⟨b, 1, none⟩ v1).setCell ⟨b, 2, none⟩ v2).setCell ⟨b, 3, none⟩ v3).setCell ⟨b, 4, none⟩ v4) :=
  (((((Only.setCell _ _ _ (by simp)).trans (Only.setCell _ _ _ (by simp))).trans (Only.setCell _ _ _ (by simp))).trans (Only.setCell _ _ _ (by simp))).trans (Only.setCell _ _ _ (by simp)))
/-- Cells that are links, one each. -/
def AreL (w : World) (p A B : Nat) : List Value → List (List Nat) → Prop
  | [], [] => True
  | c :: xs, x :: ls => ((∃ tp tc, c = .slice tp x.length tc ∧ Tx w p A B c x) ∧ x.length ≤ 9223372036854775807) ∧ AreL w p A B xs ls
  | [], _ :: _ => False
  | _ :: _, [] => False
section
variable {w w' : World} {p A B : Nat}
theorem AreL.turn (ht : ∀ v t, Tx w p A B v t → Tx w' p A B v t) : ∀ {xs : List Value} {ls : List (List Nat)}, AreL w p A B xs ls → AreL w' p A B xs ls
  | [], [], _ => trivial
  | _ :: _, _ :: _, ⟨⟨⟨tp, tc, h2, h3⟩, h4⟩, h5⟩ => ⟨⟨⟨tp, tc, h2, ht _ _ h3⟩, h4⟩, AreL.turn ht h5⟩
theorem AreL.snoc : ∀ {xs : List Value} {ls : List (List Nat)}, AreL w p A B xs ls → ∀ {t : List Nat} {tp : Option Addr} {tc : Nat}, Tx w p A B (.slice tp t.length tc) t → t.length ≤ 9223372036854775807 → AreL w p A B (xs ++ [.slice tp t.length tc]) (ls ++ [t])
  | [], [], _, _, tp, tc, h, hl => ⟨⟨⟨tp, tc, rfl, h⟩, hl⟩, trivial⟩
  | _ :: _, _ :: _, h, _, _, _, hT, hl => ⟨h.1, AreL.snoc h.2 hT hl⟩
theorem AreL.at : ∀ {xs : List Value} {ls : List (List Nat)}, AreL w p A B xs ls → ∀ j (hj : j < ls.length), ∃ tp tc, xs[j]? = some (.slice tp ls[j].length tc) ∧ Tx w p A B (.slice tp ls[j].length tc) ls[j] ∧ ls[j].length ≤ 9223372036854775807
  | [], [], _, j, hj => absurd hj (by simp)
  | _ :: _, _ :: _, ⟨⟨⟨tp, tc, h2, h3⟩, h4⟩, _⟩, 0, _ => ⟨tp, tc, by simp [h2], by subst h2; exact h3, h4⟩
  | _ :: _, _ :: ls, ⟨_, h5⟩, j + 1, hj => by
    obtain ⟨tp, tc, k2, k3, k4⟩ := AreL.at h5 j (by simpa using hj)
    exact ⟨tp, tc, by simpa using k2, by simpa using k3, by simpa using k4⟩
/-- The row, in any memory that agrees with this one from A on. -/
theorem AreL.row {xs : List Value} {ls : List (List Nat)} {base n c : Nat} {q : Option Addr} (h : AreL w p A B xs ls) (hown : w.ownsRow base 32 1 (.slice q n c) n xs) (hA : A ≤ base) {w2 : World} (ha : Agree A w w2) (hn : ls.length = n) : LkRow w2 q ls := fun j hj => by
  obtain ⟨tp, tc, k2, k3, k4⟩ := h.at j hj
  obtain ⟨hl, ⟨e, h0⟩ | ⟨g, cap, cur, e, hg, hh, hnc, hm, hc, ht⟩⟩ := hown
  · have hj' := (List.getElem?_eq_some_iff.1 k2).1
    omega
  · cases e
    have hgl := (Array.getElem?_eq_some_iff.1 hh).1
    have hh2 := (ha.1 g (Nat.le_trans hA hg) hgl).trans hh
    refine ⟨g, 0, tp, tc, rfl, Nat.lt_of_lt_of_le hgl ha.2, ?_, Tx.agree k3 ha, k4⟩
    rw [cell_of_row _ _ _ _ _ _ hh2, Nat.zero_add]
    rw [← ht, List.getElem?_take_of_lt (by omega)] at k2
    simpa using k2
end
theorem info23e : ∃ i, Try.prog.info? 32 = some i ∧ i.size = 1 ∧ i.bytes = 24 ∧ i.zero = some (.slice none 0 0) := info_of (by kernel_rfl)
theorem frame_of {A F : Array Value} (ts : List Nat) (hs : A.size = F.size) (h : ∀ t, ts.contains t = false → A.getD t undef = F.getD t undef) : A = ts.foldl (fun G t => G.setIfInBounds t (A.getD t undef)) F := by
  have key : ∀ (ts : List Nat) (G : Array Value), (ts.foldl (fun G t => G.setIfInBounds t (A.getD t undef)) G).size = G.size ∧ ∀ i (hi : i < G.size), (ts.foldl (fun G t => G.setIfInBounds t (A.getD t undef)) G).getD i undef = if i ∈ ts then A.getD i undef else G.getD i undef := by
    intro ts
    induction ts with
    | nil => intro G; exact ⟨rfl, fun i hi => by simp⟩
    | cons t r ih =>
      intro G
      obtain ⟨h1, h2⟩ := ih (G.setIfInBounds t (A.getD t undef))
      refine ⟨by simpa using h1, fun i hi => ?_⟩
      have h3 := h2 i (by simpa using hi)
      rw [List.foldl_cons, h3]
      by_cases hr : i ∈ r
      · simp [hr]
      · by_cases ht : i = t
        · subst ht
          simp [hr, hi, Array.getD_eq_getD_getElem?]
        · simp [hr, ht, Array.getD_eq_getD_getElem?, Ne.symm ht]
  obtain ⟨k1, k2⟩ := key ts F
  refine Array.ext (by rw [k1, hs]) (fun i h1 h2 => ?_)
  have e1 : ∀ (X : Array Value) (hx : i < X.size), X[i] = X.getD i undef := fun X hx => by simp [hx]
  have hi : i < F.size := by omega
  rw [e1 A h1, e1 _ h2, k2 i hi]
  by_cases hn : i ∈ ts
  · rw [if_pos hn]
  · rw [if_neg hn]
    exact h i (by simpa using hn)
end Go.Proofs.Ytchoiioeeepoaaa.F17
