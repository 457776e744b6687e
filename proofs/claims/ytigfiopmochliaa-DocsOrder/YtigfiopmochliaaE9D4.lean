/- Decode: what stands while it reads, and what it tells. -/
import Derived.Test.YtigfiopmochliaaE9Right
import Derived.Test.YtigfiopmochliaaMgD
import Derived.Laws.ResultCell
namespace Go.Proofs.Ytigfiopmochliaa.E9
open Go.RowKit C8
/-- The nine cells of no entry. -/
def z9 : Array Value := #[.int .i64 0, .int .i64 0, .int .i64 0, .slice none 0 0, .slice none 0 0, .int .i64 0, .int .i64 0, .int .i64 0, .slice none 0 0]
section
variable {w W W' : World} {p B : Nat} {s s' : Sta}
end
/-- The blocks from A on are as they were. -/
def Agree (A : Nat) (w w2 : World) : Prop := (∀ k, A ≤ k → k < w.heap.size → w2.heap[k]? = w.heap[k]?) ∧ w.heap.size ≤ w2.heap.size
theorem Agree.refl (A : Nat) (w : World) : Agree A w w := ⟨fun _ _ _ => rfl, Nat.le_refl _⟩
theorem Agree.trans {A : Nat} {w w1 w2 : World} (h : Agree A w w1) (k : Agree A w1 w2) : Agree A w w2 := ⟨fun i hi hl => (k.1 i hi (Nat.lt_of_lt_of_le hl h.2)).trans (h.1 i hi hl), Nat.le_trans h.2 k.2⟩
theorem Agree.below {A : Nat} {w w1 : World} (h : Below w.heap.size w w1) : Agree A w w1 := ⟨fun i _ hl => h.block i hl, h.size⟩
/-- An entry whose memory lies from A on. -/
def EnNew (A : Nat) (w : World) (v : Value) (e : En) : Prop := ∀ w2, Agree A w w2 → EnIs w2 v e
theorem EnNew.is {A : Nat} {w : World} {v : Value} {e : En} (h : EnNew A w v e) : EnIs w v e := h w (Agree.refl _ _)
theorem EnNew.agree {A : Nat} {w w2 : World} {v : Value} {e : En} (h : EnNew A w v e) (ha : Agree A w w2) : EnNew A w2 v e := fun w3 h3 => h w3 (ha.trans h3)
theorem Tx.agree {w w2 : World} {p A B : Nat} {v : Value} {t : List Nat} (h : Tx w p A B v t) (ha : Agree A w w2) : Src w2 v t := by
  by_cases h0 : t = []
  · subst h0
    exact h.1.empty w2
  · obtain ⟨g, hg, hA, _, _⟩ := h.2 h0
    obtain ⟨hs, ⟨rfl, rfl⟩ | ⟨_, _, rfl, rfl⟩ | ⟨b, o, c, rfl, hc, hr⟩⟩ := h.1
    · exact absurd rfl h0
    · exact absurd rfl h0
    · cases hg
      exact ⟨hs, .inr (.inr ⟨b, o, c, rfl, hc, range_kept hr (ha.1 b hA (range_lt hr (ints_ne h0)))⟩)⟩
/-- What Decode tells. -/
def DecSays (l : List Nat) (w : World) (e : Ending) (w' : World) : Prop :=
  Below w.heap.size w w' ∧ ((∃ E v, dec false l = some E ∧ e = .returned (.tuple #[v, .int .i64 0]) ∧ EnNew w.heap.size w' v E) ∨ (dec false l = none ∧ e = .returned (.tuple #[.agg z9, .int .i64 10])))
theorem results_row2 {P : Program} {fn : Func} {p u : Tmp} {ty : TypeId} (h : fn.results = #[.cell p ty, .tmp u]) (tmps : Array Value) (w : World) (g : Nat) (t : TypeId) (cs : Array Value) (fr : Nat × Nat) (d : TypeDesc)
    (hp : tmps.getD p undef = .pointer (some ⟨g, 0, none⟩)) (hg : w.heap[g]? = some (.cells cs t fr))
    (hu : P.underlying ty = some d) (hd : (match d with | .struct _ | .array _ _ => true | _ => false) = true) (hi : (P.info? ty).map (·.size) = some cs.size) :
    (results fn tmps).run P w = .ok (.tuple #[.agg cs, tmps.getD u undef]) w := by
  rw [results_cell_tmp h]
  have hp' : tmps[p]?.getD undef = .pointer (some ⟨g, 0, none⟩) := by simpa using hp
  simp [hp', asAddr, run_loadVar_row w g t ty cs fr d hg hu hd hi, Result.andThen]
theorem row9 {w : World} {b : Nat} {t : TypeId} {x0 x1 x2 x3 x4 x5 x6 x7 x8 : Value} (h : w.heap[b]? = some (.cells #[x0, x1, x2, x3, x4, x5, x6, x7, x8] t (0, 0))) (v0 v1 v2 v3 v4 v5 v6 v7 v8 : Value) :
    (((((((((w.setCell ⟨b, 0, none⟩ v0).setCell ⟨b, 1, none⟩ v1).setCell ⟨b, 2, none⟩ v2).setCell ⟨b, 3, none⟩ v3).setCell ⟨b, 4, none⟩ v4).setCell ⟨b, 5, none⟩ v5).setCell ⟨b, 6, none⟩ v6).setCell ⟨b, 7, none⟩ v7).setCell ⟨b, 8, none⟩ v8).heap[b]? = some (.cells #[v0, v1, v2, v3, v4, v5, v6, v7, v8] t (0, 0)) := by
  have k0 : (w.setCell ⟨b, 0, none⟩ v0).heap[b]? = some (.cells #[v0, x1, x2, x3, x4, x5, x6, x7, x8] t (0, 0)) := heap_setCell_same _ b 0 _ t v0 h
  have k1 : ((w.setCell ⟨b, 0, none⟩ v0).setCell ⟨b, 1, none⟩ v1).heap[b]? = some (.cells #[v0, v1, x2, x3, x4, x5, x6, x7, x8] t (0, 0)) := heap_setCell_same _ b 1 _ t v1 k0
  have k2 : (((w.setCell ⟨b, 0, none⟩ v0).setCell ⟨b, 1, none⟩ v1).setCell ⟨b, 2, none⟩ v2).heap[b]? = some (.cells #[v0, v1, v2, x3, x4, x5, x6, x7, x8] t (0, 0)) := heap_setCell_same _ b 2 _ t v2 k1
  have k3 : ((((w.setCell ⟨b, 0, none⟩ v0).setCell ⟨b, 1, none⟩ v1).setCell ⟨b, 2, none⟩ v2).setCell ⟨b, 3, none⟩ v3).heap[b]? = some (.cells #[v0, v1, v2, v3, x4, x5, x6, x7, x8] t (0, 0)) := heap_setCell_same _ b 3 _ t v3 k2
  have k4 : (((((w.setCell ⟨b, 0, none⟩ v0).setCell ⟨b, 1, none⟩ v1).setCell ⟨b, 2, none⟩ v2).setCell ⟨b, 3, none⟩ v3).setCell ⟨b, 4, none⟩ v4).heap[b]? = some (.cells #[v0, v1, v2, v3, v4, x5, x6, x7, x8] t (0, 0)) := heap_setCell_same _ b 4 _ t v4 k3
  have k5 : ((((((w.setCell ⟨b, 0, none⟩ v0).setCell ⟨b, 1, none⟩ v1).setCell ⟨b, 2, none⟩ v2).setCell ⟨b, 3, none⟩ v3).setCell ⟨b, 4, none⟩ v4).setCell ⟨b, 5, none⟩ v5).heap[b]? = some (.cells #[v0, v1, v2, v3, v4, v5, x6, x7, x8] t (0, 0)) := heap_setCell_same _ b 5 _ t v5 k4
  have k6 : (((((((w.setCell ⟨b, 0, none⟩ v0).setCell ⟨b, 1, none⟩ v1).setCell ⟨b, 2, none⟩ v2).setCell ⟨b, 3, none⟩ v3).setCell ⟨b, 4, none⟩ v4).setCell ⟨b, 5, none⟩ v5).setCell ⟨b, 6, none⟩ v6).heap[b]? = some (.cells #[v0, v1, v2, v3, v4, v5, v6, x7, x8] t (0, 0)) := heap_setCell_same _ b 6 _ t v6 k5
  have k7 : ((((((((w.setCell ⟨b, 0, none⟩ v0).setCell ⟨b, 1, none⟩ v1).setCell ⟨b, 2, none⟩ v2).setCell ⟨b, 3, none⟩ v3).setCell ⟨b, 4, none⟩ v4).setCell ⟨b, 5, none⟩ v5).setCell ⟨b, 6, none⟩ v6).setCell ⟨b, 7, none⟩ v7).heap[b]? = some (.cells #[v0, v1, v2, v3, v4, v5, v6, v7, x8] t (0, 0)) := heap_setCell_same _ b 7 _ t v7 k6
  have k8 : (((((((((w.setCell ⟨b, 0, none⟩ v0).setCell ⟨b, 1, none⟩ v1).setCell ⟨b, 2, none⟩ v2).setCell ⟨b, 3, none⟩ v3).setCell ⟨b, 4, none⟩ v4).setCell ⟨b, 5, none⟩ v5).setCell ⟨b, 6, none⟩ v6).setCell ⟨b, 7, none⟩ v7).setCell ⟨b, 8, none⟩ v8).heap[b]? = some (.cells #[v0, v1, v2, v3, v4, v5, v6, v7, v8] t (0, 0)) := heap_setCell_same _ b 8 _ t v8 k7
  exact k8
theorem bel9 {w0 w : World} {b A : Nat} (h : Below A w0 w) (hb : A ≤ b) (v0 v1 v2 v3 v4 v5 v6 v7 v8 : Value) : Below A w0 (((((((((w.setCell ⟨b, 0, none⟩ v0).setCell ⟨b, 1, none⟩ v1).setCell ⟨b, 2, none⟩ v2).setCell ⟨b, 3, none⟩ v3).setCell ⟨b, 4, none⟩ v4).setCell ⟨b, 5, none⟩ v5).setCell ⟨b, 6, none⟩ v6).setCell ⟨b, 7, none⟩ v7).setCell ⟨b, 8, none⟩ v8) :=
  (((((((((h.setCell (p := ⟨b, 0, none⟩) hb v0).setCell (p := ⟨b, 1, none⟩) hb v1).setCell (p := ⟨b, 2, none⟩) hb v2).setCell (p := ⟨b, 3, none⟩) hb v3).setCell (p := ⟨b, 4, none⟩) hb v4).setCell (p := ⟨b, 5, none⟩) hb v5).setCell (p := ⟨b, 6, none⟩) hb v6).setCell (p := ⟨b, 7, none⟩) hb v7).setCell (p := ⟨b, 8, none⟩) hb v8)
theorem dec_none1 {l : List Nat} {E : En} {s : Sta} (hd : decE false (l, false) = (E, s)) (he : (!s.2 && decide (s.1 = [])) = false) : dec false l = none := by
  unfold dec
  rw [hd]
  simp only
  rw [if_neg]
  rintro ⟨h1, h2, _⟩
  simp [h1, h2] at he
theorem dec_none2 {l : List Nat} {E : En} {s : Sta} (hd : decE false (l, false) = (E, s)) (hr : right E = false) : dec false l = none := by
  unfold dec
  rw [hd]
  simp [hr]
theorem dec_some {l : List Nat} {E : En} {s : Sta} (hd : decE false (l, false) = (E, s)) (he : (!s.2 && decide (s.1 = [])) = true) (hr : right E = true) : dec false l = some E := by
  unfold dec
  rw [hd]
  simp at he
  simp [hr, he]
theorem rT_le {s s' : Sta} {t : List Nat} (h : rT 0 4096 s = (t, s')) : t.length ≤ 9223372036854775807 := by
  unfold rT at h
  split at h
  · cases h
    simp
  · cases h
    rw [List.length_take]
    omega
theorem decE_hd {l : List Nat} {k a b : Int} {s1 s2 s3 : Sta} (H1 : rN 0 1099511627776 (l, false) = (k, s1)) (H2 : rN 1 16 s1 = (a, s2)) (H3 : rN 0 1099511627776 s2 = (b, s3)) : decE false (l, false) = tl false k a b s3 := by
  unfold decE hd lo1 hiK
  simp [H1, H2, H3]
theorem DecSays.no {l : List Nat} {w w' : World} (hb : Below w.heap.size w w') (hd : dec false l = none) : DecSays l w (.returned (.tuple #[.agg z9, .int .i64 10])) w' := ⟨hb, .inr ⟨hd, rfl⟩⟩
theorem DecSays.yes {l : List Nat} {w w' : World} {v : Value} {E : En} (hb : Below w.heap.size w w') (hd : dec false l = some E) (he : EnNew w.heap.size w' v E) : DecSays l w (.returned (.tuple #[v, .int .i64 0])) w' := ⟨hb, .inl ⟨E, v, hd, rfl, he⟩⟩
theorem only9 (w : World) (b : Nat) (v0 v1 v2 v3 v4 v5 v6 v7 v8 : Value) : Only [b] w (((((((((w.setCell ⟨b, 0, none⟩ v0).setCell ⟨b, 1, none⟩ v1).setCell ⟨b, 2, none⟩ v2).setCell ⟨b, 3, none⟩ v3).setCell ⟨b, 4, none⟩ v4).setCell ⟨b, 5, none⟩ v5).setCell ⟨b, 6, none⟩ v6).setCell ⟨b, 7, none⟩ v7).setCell ⟨b, 8, none⟩ v8) :=
  (((((((((Only.setCell _ _ _ (by simp)).trans (Only.setCell _ _ _ (by simp))).trans (Only.setCell _ _ _ (by simp))).trans (Only.setCell _ _ _ (by simp))).trans (Only.setCell _ _ _ (by simp))).trans (Only.setCell _ _ _ (by simp))).trans (Only.setCell _ _ _ (by simp))).trans (Only.setCell _ _ _ (by simp))).trans (Only.setCell _ _ _ (by simp)))
theorem EnNew.last {A : Nat} {w w' : World} {v : Value} {e : En} (h : EnNew (A + 1) w v e) (ho : Only [A] w w') : EnNew A w' v e := fun w2 ha =>
  h w2 ⟨fun k hk hl => (ha.1 k (by omega) (Nat.lt_of_lt_of_le hl ho.size)).trans (ho.block k hl (by simp; omega)), Nat.le_trans ho.size ha.2⟩
end Go.Proofs.Ytigfiopmochliaa.E9
