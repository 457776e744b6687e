/- SuiteSigns: what stands between two of its steps; its last region's table. -/
import Derived.Test.YtbblokikhocdfaaDoorS7SigX
import Derived.Test.YtbblokikhocdfaaDoorS7Anchor
namespace Go.Proofs.YtbblokikhocdfaaDoor.S7
open Go.RowKit
/-- A suite of signs, the document's list, and the answers that were told. -/
structure Sg (w W : World) (p q m x d : Nat) (v : Value) (k : Nat) (xs : List Value) (ts : List (List Nat)) (L : List Su.Thing) : Prop where
  bel : Below w.heap.size w W
  pr : Pr w.heap.size W p q m x d L L
  row : W.ownsRow w.heap.size 32 1 v k xs
  lx : xs.length = k
  lt : ts.length = k
  all : ∀ (i : Nat) (y : Value) (l : List Nat), xs[i]? = some y → ts[i]? = some l → By w.heap.size W y l
  l216 : ∀ l ∈ ts, l.length ≤ 216
  t216 : ∀ u ∈ L, u.2.2.2.2.length ≤ 216
/-- The copy of a step. -/
structure Cp (B : Nat) (W : World) (pe : Nat) (k0 r5 r6 : Int) (kv nv ov tv : Value) (ky nn oo tx : List Nat) : Prop where
  box : W.heap[pe]? = some (.cells #[.int .i64 k0, kv, nv, ov, tv, .int .i64 r5, .int .i64 r6] 34 (0, 0))
  key : By B W kv ky
  nonce : By B W nv nn
  other : By B W ov oo
  text : By B W tv tx
  lk : ky.length ≤ 216
  ln : nn.length ≤ 100
  lo : oo.length ≤ 100
  lt : tx.length ≤ 216
  l4 : k0 ≠ 5 → tx.length ≤ 200
section
variable {w W W' : World} {p q m x d : Nat} {v : Value} {k : Nat} {xs : List Value} {ts : List (List Nat)} {L L' : List Su.Thing} {B pe : Nat} {k0 r5 r6 : Int} {kv nv ov tv : Value} {ky nn oo tx : List Nat}
theorem Cp.below (h : Cp B W pe k0 r5 r6 kv nv ov tv ky nn oo tx) (hb : Below W.heap.size W W') : Cp B W' pe k0 r5 r6 kv nv ov tv ky nn oo tx :=
  ⟨(hb.block _ (Array.getElem?_eq_some_iff.1 h.box).1).trans h.box, h.key.below hb, h.nonce.below hb, h.other.below hb, h.text.below hb, h.lk, h.ln, h.lo, h.lt, h.l4⟩
theorem Cp.kx (h : Cp B W pe k0 r5 r6 kv nv ov tv ky nn oo tx) (hk : Kx [some 63, none, some 30, some 71] B W W') : Cp B W' pe k0 r5 r6 kv nv ov tv ky nn oo tx :=
  ⟨hk.row _ _ h.box (by simp [tyOf]), h.key.kx hk (by decide), h.nonce.kx hk (by decide), h.other.kx hk (by decide), h.text.kx hk (by decide), h.lk, h.ln, h.lo, h.lt, h.l4⟩
theorem Cp.cells (h : Cp B W pe k0 r5 r6 kv nv ov tv ky nn oo tx) : W.cell? ⟨pe, 0, none⟩ = some (.int .i64 k0) ∧ W.cell? ⟨pe, 1, none⟩ = some kv ∧ W.cell? ⟨pe, 2, none⟩ = some nv ∧ W.cell? ⟨pe, 3, none⟩ = some ov ∧ W.cell? ⟨pe, 4, none⟩ = some tv ∧ W.cell? ⟨pe, 5, none⟩ = some (.int .i64 r5) ∧ W.cell? ⟨pe, 6, none⟩ = some (.int .i64 r6) ∧ ∀ i, W.frozen? ⟨pe, i, none⟩ = false := by
  refine ⟨?_, ?_, ?_, ?_, ?_, ?_, ?_, fun i => frozen_of_row _ _ _ _ _ h.box⟩ <;> (rw [cell_of_row _ _ _ _ _ _ h.box]; rfl)
theorem Sg.below (h : Sg w W p q m x d v k xs ts L) (hb : Below W.heap.size W W') : Sg w W' p q m x d v k xs ts L :=
  ⟨h.bel.trans (hb.mono h.bel.size), h.pr.below hb, own_only h.row (Only.of_below hb []) (fun _ _ e => by simp at e), h.lx, h.lt, fun i y l h1 h2 => (h.all i y l h1 h2).below hb, h.l216, h.t216⟩
/-- Behind a call on both sides. -/
theorem Sg.kx (h : Sg w W p q m x d v k xs ts L) (hk : Kx [some 63, none, some 30, some 71] w.heap.size W W') (hp : Pr w.heap.size W' p q m x d L' L') (ht : ∀ u ∈ L', u.2.2.2.2.length ≤ 216) : Sg w W' p q m x d v k xs ts L' := by
  refine ⟨h.bel.trans hk.low, hp, ?_, h.lx, h.lt, fun i y l h1 h2 => (h.all i y l h1 h2).kx hk (by decide), h.l216, ht⟩
  obtain ⟨hl, h1 | ⟨g, cap, cur, rfl, hg, hh, hr⟩⟩ := h.row
  · exact ⟨hl, .inl h1⟩
  · exact ⟨hl, .inr ⟨g, cap, cur, rfl, hg, hk.row g _ hh (by simp [tyOf]), hr⟩⟩
/-- An answer that was told. -/
theorem Sg.at (h : Sg w W p q m x d v k xs ts L) {i : Nat} (hi : i < k) : ∃ g cap y l, v = .slice (some ⟨g, 0, none⟩) k cap ∧ k ≤ cap ∧ W.cell? ⟨g, i, none⟩ = some y ∧ By w.heap.size W y l ∧ l.length ≤ 216 := by
  obtain ⟨hl, ⟨rfl, h0⟩ | ⟨g, cap, cur, rfl, hg, hh, hn, hm, hc, htk⟩⟩ := h.row
  · omega
  · have ex : xs[i]? = some (xs[i]'(by rw [h.lx]; exact hi)) := List.getElem?_eq_getElem _
    have et : ts[i]? = some (ts[i]'(by rw [h.lt]; exact hi)) := List.getElem?_eq_getElem _
    refine ⟨g, cap, _, _, rfl, hn, ?_, h.all i _ _ ex et, h.l216 _ (List.getElem_mem _)⟩
    rw [cell_of_row _ _ _ _ _ _ hh, ← ex, ← htk, List.getElem?_take_of_lt (by omega)]
    simp
theorem By.of_old (h : Old B W v tx) : By B W v tx := by
  obtain ⟨⟨hs, h1 | h1 | ⟨b, o, c, rfl, hc, hr⟩⟩, h2⟩ := h
  · exact ⟨hs, .inl h1⟩
  · exact ⟨hs, .inr (.inl h1)⟩
  · by_cases h0 : tx = []
    · subst h0
      exact ⟨hs, .inr (.inl ⟨_, _, rfl, rfl⟩)⟩
    · exact ⟨hs, .inr (.inr ⟨b, o, c, rfl, hc, hr, .inl (h2 h0 b rfl)⟩)⟩
theorem Cp.put1 (h : Cp B W pe k0 r5 r6 kv nv ov tv ky nn oo tx) {y : Value} {l : List Nat} (hpe : ∀ z l, By B W z l → By B (W.setCell ⟨pe, 1, none⟩ y) z l) (hy : By B W y l) (hl : l.length ≤ 216) : Cp B (W.setCell ⟨pe, 1, none⟩ y) pe k0 r5 r6 y nv ov tv l nn oo tx :=
  ⟨heap_setCell_same W pe 1 _ 34 y h.box, hpe _ _ hy, hpe _ _ h.nonce, hpe _ _ h.other, hpe _ _ h.text, hl, h.ln, h.lo, h.lt, h.l4⟩
theorem Cp.put4 (h : Cp B W pe 5 r5 r6 kv nv ov tv ky nn oo tx) {y : Value} {l : List Nat} (hpe : ∀ z l, By B W z l → By B (W.setCell ⟨pe, 4, none⟩ y) z l) (hy : By B W y l) (hl : l.length ≤ 216) : Cp B (W.setCell ⟨pe, 4, none⟩ y) pe 5 r5 r6 kv nv ov y ky nn oo l :=
  ⟨heap_setCell_same W pe 4 _ 34 y h.box, hpe _ _ h.key, hpe _ _ h.nonce, hpe _ _ h.other, hpe _ _ hy, h.lk, h.ln, h.lo, hl, fun e => absurd rfl e⟩
/-- A cell of the copy is set. -/
theorem kx34 (h : W.heap[pe]? = some (.cells #[.int .i64 k0, kv, nv, ov, tv, .int .i64 r5, .int .i64 r6] 34 (0, 0))) (hB : B ≤ pe) (i : Nat) (y : Value) : Kx [some 34] B W (W.setCell ⟨pe, i, none⟩ y) :=
  Kx.of_only (Only.setCell (bs := [pe]) _ _ _ (by simp)) (by have := (Array.getElem?_eq_some_iff.1 h).1; omega) (fun z hz => by
    rw [List.mem_singleton.1 hz]
    exact ⟨hB, fun o ho => by rw [h] at ho; cases ho; simp [tyOf]⟩)
theorem Sg.kx34 (h : Sg w W p q m x d v k xs ts L) (hk : Kx [some 34] w.heap.size W W') (hs : W.heap.size ≤ W'.heap.size) : Sg w W' p q m x d v k xs ts L := by
  refine ⟨h.bel.trans hk.low, ⟨h.pr.su.kx hk (by decide) (by decide) (by decide), h.pr.doc.kx hk (by decide) (by decide) (by decide), h.pr.lp, h.pr.lm, h.pr.lx, Nat.le_trans h.pr.size hs⟩, ?_, h.lx, h.lt, fun i y l h1 h2 => (h.all i y l h1 h2).kx hk (by decide), h.l216, h.t216⟩
  obtain ⟨hl, h1 | ⟨g, cap, cur, rfl, hg, hh, hr⟩⟩ := h.row
  · exact ⟨hl, .inl h1⟩
  · exact ⟨hl, .inr ⟨g, cap, cur, rfl, hg, hk.row g _ hh (by simp [tyOf]), hr⟩⟩
/-- One more answer. -/
theorem Sg.push {v' u : Value} {l : List Nat} (h : Sg w W p q m x d v k xs ts L) (ho : W'.ownsRow w.heap.size 32 1 v' (k + 1) (xs ++ [u])) (hg : W.grownBy W' v.ownBlock) (hu : By w.heap.size W u l) (hl : l.length ≤ 216) : Sg w W' p q m x d v' (k + 1) (xs ++ [u]) (ts ++ [l]) L := by
  have hb : Below w.heap.size W W' := below_append h.row hg h.pr.size
  have hk : Kx [some 32] w.heap.size W W' := by
    refine ⟨hb, fun i o hi ht => ?_⟩
    by_cases e : v.ownBlock = some i
    · exfalso
      obtain ⟨_, ⟨rfl, _⟩ | ⟨g, cap, cur, rfl, _, hh, _⟩⟩ := h.row
      · cases e
      · cases e
        rw [hh] at hi
        cases hi
        exact ht (by simp [tyOf])
    · exact (hg.block i (Array.getElem?_eq_some_iff.1 hi).1 (fun e2 => e e2.symm)).trans hi
  refine ⟨h.bel.trans hb, ⟨h.pr.su.kx hk (by decide) (by decide) (by decide), h.pr.doc.kx hk (by decide) (by decide) (by decide), h.pr.lp, h.pr.lm, h.pr.lx, Nat.le_trans h.pr.size hb.size⟩, ho, by simp [h.lx], by simp [h.lt], fun i y l' h1 h2 => ?_, fun l' hl' => ?_, h.t216⟩
  · by_cases hi : i < k
    · rw [List.getElem?_append_left (by rw [h.lx]; exact hi)] at h1
      rw [List.getElem?_append_left (by rw [h.lt]; exact hi)] at h2
      exact (h.all i y l' h1 h2).kx hk (by decide)
    · rw [List.getElem?_append_right (by rw [h.lx]; omega), h.lx] at h1
      rw [List.getElem?_append_right (by rw [h.lt]; omega), h.lt] at h2
      by_cases e : i - k = 0
      · rw [e] at h1 h2
        simp at h1 h2
        subst h1 h2
        exact hu.kx hk (by decide)
      · rw [List.getElem?_eq_none (by simp; omega)] at h1
        cases h1
  · rcases List.mem_append.1 hl' with hl' | hl'
    · exact h.l216 l' hl'
    · rw [List.mem_singleton.1 hl']
      exact hl
theorem add_texts {s : Nat} {key text : List Nat} (h : ∀ u ∈ L, u.2.2.2.2.length ≤ 216) (ht : text.length ≤ 216) : ∀ u ∈ Su.add L s key text, u.2.2.2.2.length ≤ 216 := by
  unfold Su.add
  split
  · exact h
  · intro u hu
    rcases List.mem_append.1 hu with hu | hu
    · exact h u hu
    · rw [List.mem_singleton.1 hu]
      exact ht
theorem snoc_texts {z : Su.Thing} (h : ∀ u ∈ L, u.2.2.2.2.length ≤ 216) (ht : z.2.2.2.2.length ≤ 216) : ∀ u ∈ L ++ [z], u.2.2.2.2.length ≤ 216 := by
  intro u hu
  rcases List.mem_append.1 hu with hu | hu
  · exact h u hu
  · rw [List.mem_singleton.1 hu]
    exact ht
theorem opens_text {kk n o b t : List Nat} : ∀ (L : List Su.Thing) (i : Nat), (∀ u ∈ L, u.2.2.2.2.length ≤ 216) → Su.opens kk n o b i L = some t → t.length ≤ 216
  | [], _, _, h => by simp [Su.opens] at h
  | z :: r, i, hL, h => by
    simp only [Su.opens] at h
    split at h
    · cases h
      exact hL z (by simp)
    · exact opens_text r (i + 1) (fun u hu => hL u (by simp [hu])) h
end
section
variable {o : Oper} {a' : Act} {w' : World}
theorem nil_run (t : Tmp) (x : Addr) (ho : o.op = .nilCheck (.tmp t)) (h0 : a'.tmps.getD t undef = .pointer (some x)) : (execOp a'.eval o).run Tryd.prog w' = .ok (.value (.pointer (some x))) w' := by
  have he : a'.eval (.tmp t) = .pointer (some x) := h0
  unfold execOp
  simp only [ho]
  rw [he]
  simp [go_sem]
theorem neqN_run (s t : Tmp) (x y : Int) (ho : o.op = .binOp .neq 3 (.tmp s) (.tmp t) 3) (h0 : a'.tmps.getD s undef = .int .i64 x) (h1 : a'.tmps.getD t undef = .int .i64 y) : (execOp a'.eval o).run Tryd.prog w' = .ok (.value (.bool (x != y))) w' := by
  have he : a'.eval (.tmp s) = .int .i64 x := h0
  have hc : a'.eval (.tmp t) = .int .i64 y := h1
  unfold execOp
  simp only [ho]
  rw [he, hc]
  simp [go_sem]
theorem lenV_run (t : Tmp) (q : Option Addr) (n c : Nat) (ho : o.op = .call { callee := .builtin .len, args := #[.tmp t], argTypes := #[28] }) (h0 : a'.tmps.getD t undef = .slice q n c) : (execOp a'.eval o).run Tryd.prog w' = .ok (.value (.int .i64 (n : Int))) w' := by
  have h1 : a'.tmps[t]?.getD undef = .slice q n c := by simpa using h0
  unfold execOp
  simp only [ho]
  simp [h1, go_sem]
end
theorem fa30_0 (b : Nat) (w : World) : (Instr.fieldAt 30 (.pointer (some ⟨b, 0, none⟩)) 0).run Tryd.prog w = .ok (.pointer (some ⟨b, 0, none⟩)) w := by simp [go_sem]
theorem ld28 {b k : Nat} {q : Option Addr} {n c : Nat} {w : World} (h : w.cell? ⟨b, k, none⟩ = some (.slice q n c)) : (Instr.loadAt 28 (.pointer (some ⟨b, k, none⟩))).run Tryd.prog w = .ok (.slice q n c) w := by simp [go_sem, h]
def sg30 (p d : Nat) (l : List Nat) (er : Int) (dq : Option Addr) (ln dc : Nat) : Nat → Value → World → Prop
  | 0 => IsV (.int .i64 er)
  | 1 => IsV (.int .i64 er)
  | 2 => IsV (.bool false)
  | 3 => IsV (.bool false)
  | 4 => SrcV [] l
  | 5 => IsV (.string (strB l))
  | 6 => SrcV [] l
  | 7 => IsV (.string (strB l))
  | 8 => IsV (.bool false)
  | 9 => IsV (.bool false)
  | 10 => IsV (.bool false)
  | 11 => IsV (.pointer (some ⟨p, 0, none⟩))
  | 12 => IsV (.int .i64 (ln : Int))
  | 13 => IsV (.pointer (some ⟨d, 0, none⟩))
  | 14 => IsV (.pointer (some ⟨d, 0, none⟩))
  | 15 => IsV (.pointer (some ⟨d, 0, none⟩))
  | 16 => IsV (.slice dq ln dc)
  | 17 => IsV (.int .i64 (ln : Int))
  | 18 => IsV (.bool false)
  | 19 => IsV (.bool false)
  | _ => fun _ _ => True
theorem sg30_kept (p d : Nat) (l : List Nat) (er : Int) (dq : Option Addr) (ln dc : Nat) : ∀ i v w w', sg30 p d l er dq ln dc i v w → Only [] w w' → sg30 p d l er dq ln dc i v w'
  | 0, _, _, _, h, _ => h
  | 1, _, _, _, h, _ => h
  | 2, _, _, _, h, _ => h
  | 3, _, _, _, h, _ => h
  | 4, _, _, _, h, ho => SrcV.kept h ho
  | 5, _, _, _, h, _ => h
  | 6, _, _, _, h, ho => SrcV.kept h ho
  | 7, _, _, _, h, _ => h
  | 8, _, _, _, h, _ => h
  | 9, _, _, _, h, _ => h
  | 10, _, _, _, h, _ => h
  | 11, _, _, _, h, _ => h
  | 12, _, _, _, h, _ => h
  | 13, _, _, _, h, _ => h
  | 14, _, _, _, h, _ => h
  | 15, _, _, _, h, _ => h
  | 16, _, _, _, h, _ => h
  | 17, _, _, _, h, _ => h
  | 18, _, _, _, h, _ => h
  | 19, _, _, _, h, _ => h
  | _ + 20, _, _, _, _, _ => trivial
set_option maxHeartbeats 2000000 in
set_option maxRecDepth 20000 in
theorem frame3_30 {A F : Array Value} (hs : A.size = 180) (h : ∀ t, [155, 156, 157, 158, 159, 160, 161, 162, 163, 164, 165, 166, 167, 168, 169, 170, 171, 172, 173, 174].contains t = false → A.getD t undef = F.getD t undef) : A = #[F.getD 0 undef, F.getD 1 undef, F.getD 2 undef, F.getD 3 undef, F.getD 4 undef, F.getD 5 undef, F.getD 6 undef, F.getD 7 undef, F.getD 8 undef, F.getD 9 undef, F.getD 10 undef, F.getD 11 undef, F.getD 12 undef, F.getD 13 undef, F.getD 14 undef, F.getD 15 undef, F.getD 16 undef, F.getD 17 undef, F.getD 18 undef, F.getD 19 undef, F.getD 20 undef, F.getD 21 undef, F.getD 22 undef, F.getD 23 undef, F.getD 24 undef, F.getD 25 undef, F.getD 26 undef, F.getD 27 undef, F.getD 28 undef, F.getD 29 undef, F.getD 30 undef, F.getD 31 undef, F.getD 32 undef, F.getD 33 undef, F.getD 34 undef, F.getD 35 undef, F.getD 36 undef, F.getD 37 undef, F.getD 38 undef, F.getD 39 undef, F.getD 40 undef, F.getD 41 undef, F.getD 42 undef, F.getD 43 undef, F.getD 44 undef, F.getD 45 undef, F.getD 46 undef, F.getD 47 undef, F.getD 48 undef, F.getD 49 undef, F.getD 50 undef, F.getD 51 undef, F.getD 52 undef, F.getD 53 undef, F.getD 54 undef, F.getD 55 undef, F.getD 56 undef, F.getD 57 undef, F.getD 58 undef, F.getD 59 undef, F.getD 60 undef, F.getD 61 undef, F.getD 62 undef, F.getD 63 undef, F.getD 64 undef, F.getD 65 undef, F.getD 66 undef, F.getD 67 undef, F.getD 68 undef, F.getD 69 undef, F.getD 70 undef, F.getD 71 undef, F.getD 72 undef, F.getD 73 undef, F.getD 74 undef, F.getD 75 undef, F.getD 76 undef, F.getD 77 undef, F.getD 78 undef, F.getD 79 undef, F.getD 80 undef, F.getD 81 undef, F.getD 82 undef, F.getD 83 undef, F.getD 84 undef, F.getD 85 undef, F.getD 86 undef, F.getD 87 undef, F.getD 88 undef, F.getD 89 undef, F.getD 90 undef, F.getD 91 undef, F.getD 92 undef, F.getD 93 undef, F.getD 94 undef, F.getD 95 undef, F.getD 96 undef, F.getD 97 undef, F.getD 98 undef, F.getD 99 undef, F.getD 100 undef, F.getD 101 undef, F.getD 102 undef, F.getD 103 undef, F.getD 104 undef, F.getD 105 undef, F.getD 106 undef, F.getD 107 undef, F.getD 108 undef, F.getD 109 undef, F.getD 110 undef, F.getD 111 undef, F.getD 112 undef, F.getD 113 undef, F.getD 114 undef, F.getD 115 undef, F.getD 116 undef, F.getD 117 undef, F.getD 118 undef, F.getD 119 undef, F.getD 120 undef, F.getD 121 undef, F.getD 122 undef, F.getD 123 undef, F.getD 124 undef, F.getD 125 undef, F.getD 126 undef, F.getD 127 undef, F.getD 128 undef, F.getD 129 undef, F.getD 130 undef, F.getD 131 undef, F.getD 132 undef, F.getD 133 undef, F.getD 134 undef, F.getD 135 undef, F.getD 136 undef, F.getD 137 undef, F.getD 138 undef, F.getD 139 undef, F.getD 140 undef, F.getD 141 undef, F.getD 142 undef, F.getD 143 undef, F.getD 144 undef, F.getD 145 undef, F.getD 146 undef, F.getD 147 undef, F.getD 148 undef, F.getD 149 undef, F.getD 150 undef, F.getD 151 undef, F.getD 152 undef, F.getD 153 undef, F.getD 154 undef, A.getD 155 undef, A.getD 156 undef, A.getD 157 undef, A.getD 158 undef, A.getD 159 undef, A.getD 160 undef, A.getD 161 undef, A.getD 162 undef, A.getD 163 undef, A.getD 164 undef, A.getD 165 undef, A.getD 166 undef, A.getD 167 undef, A.getD 168 undef, A.getD 169 undef, A.getD 170 undef, A.getD 171 undef, A.getD 172 undef, A.getD 173 undef, A.getD 174 undef, F.getD 175 undef, F.getD 176 undef, F.getD 177 undef, F.getD 178 undef, F.getD 179 undef] := by
  rw [← h 0 (by decide), ← h 1 (by decide), ← h 2 (by decide), ← h 3 (by decide), ← h 4 (by decide), ← h 5 (by decide), ← h 6 (by decide), ← h 7 (by decide), ← h 8 (by decide), ← h 9 (by decide), ← h 10 (by decide), ← h 11 (by decide), ← h 12 (by decide), ← h 13 (by decide), ← h 14 (by decide), ← h 15 (by decide), ← h 16 (by decide), ← h 17 (by decide), ← h 18 (by decide), ← h 19 (by decide), ← h 20 (by decide), ← h 21 (by decide), ← h 22 (by decide), ← h 23 (by decide), ← h 24 (by decide), ← h 25 (by decide), ← h 26 (by decide), ← h 27 (by decide), ← h 28 (by decide), ← h 29 (by decide), ← h 30 (by decide), ← h 31 (by decide), ← h 32 (by decide), ← h 33 (by decide), ← h 34 (by decide), ← h 35 (by decide), ← h 36 (by decide), ← h 37 (by decide), ← h 38 (by decide), ← h 39 (by decide), ← h 40 (by decide), ← h 41 (by decide), ← h 42 (by decide), ← h 43 (by decide), ← h 44 (by decide), ← h 45 (by decide), ← h 46 (by decide), ← h 47 (by decide), ← h 48 (by decide), ← h 49 (by decide), ← h 50 (by decide), ← h 51 (by decide), ← h 52 (by decide), ← h 53 (by decide), ← h 54 (by decide), ← h 55 (by decide), ← h 56 (by decide), ← h 57 (by decide), ← h 58 (by decide), ← h 59 (by decide), ← h 60 (by decide), ← h 61 (by decide), ← h 62 (by decide), ← h 63 (by decide), ← h 64 (by decide), ← h 65 (by decide), ← h 66 (by decide), ← h 67 (by decide), ← h 68 (by decide), ← h 69 (by decide), ← h 70 (by decide), ← h 71 (by decide), ← h 72 (by decide), ← h 73 (by decide), ← h 74 (by decide), ← h 75 (by decide), ← h 76 (by decide), ← h 77 (by decide), ← h 78 (by decide), ← h 79 (by decide), ← h 80 (by decide), ← h 81 (by decide), ← h 82 (by decide), ← h 83 (by decide), ← h 84 (by decide), ← h 85 (by decide), ← h 86 (by decide), ← h 87 (by decide), ← h 88 (by decide), ← h 89 (by decide), ← h 90 (by decide), ← h 91 (by decide), ← h 92 (by decide), ← h 93 (by decide), ← h 94 (by decide), ← h 95 (by decide), ← h 96 (by decide), ← h 97 (by decide), ← h 98 (by decide), ← h 99 (by decide), ← h 100 (by decide), ← h 101 (by decide), ← h 102 (by decide), ← h 103 (by decide), ← h 104 (by decide), ← h 105 (by decide), ← h 106 (by decide), ← h 107 (by decide), ← h 108 (by decide), ← h 109 (by decide), ← h 110 (by decide), ← h 111 (by decide), ← h 112 (by decide), ← h 113 (by decide), ← h 114 (by decide), ← h 115 (by decide), ← h 116 (by decide), ← h 117 (by decide), ← h 118 (by decide), ← h 119 (by decide), ← h 120 (by decide), ← h 121 (by decide), ← h 122 (by decide), ← h 123 (by decide), ← h 124 (by decide), ← h 125 (by decide), ← h 126 (by decide), ← h 127 (by decide), ← h 128 (by decide), ← h 129 (by decide), ← h 130 (by decide), ← h 131 (by decide), ← h 132 (by decide), ← h 133 (by decide), ← h 134 (by decide), ← h 135 (by decide), ← h 136 (by decide), ← h 137 (by decide), ← h 138 (by decide), ← h 139 (by decide), ← h 140 (by decide), ← h 141 (by decide), ← h 142 (by decide), ← h 143 (by decide), ← h 144 (by decide), ← h 145 (by decide), ← h 146 (by decide), ← h 147 (by decide), ← h 148 (by decide), ← h 149 (by decide), ← h 150 (by decide), ← h 151 (by decide), ← h 152 (by decide), ← h 153 (by decide), ← h 154 (by decide), ← h 175 (by decide), ← h 176 (by decide), ← h 177 (by decide), ← h 178 (by decide), ← h 179 (by decide)]
  refine Array.ext (by simp [hs]) (fun i h1 h2 => ?_)
  have e : A[i] = A.getD i undef := by simp [h1]
  rw [e]
  rw [hs] at h1
  clear e h hs
  match i, h1 with
  | 0, _ => rfl
  | 1, _ => rfl
  | 2, _ => rfl
  | 3, _ => rfl
  | 4, _ => rfl
  | 5, _ => rfl
  | 6, _ => rfl
  | 7, _ => rfl
  | 8, _ => rfl
  | 9, _ => rfl
  | 10, _ => rfl
  | 11, _ => rfl
  | 12, _ => rfl
  | 13, _ => rfl
  | 14, _ => rfl
  | 15, _ => rfl
  | 16, _ => rfl
  | 17, _ => rfl
  | 18, _ => rfl
  | 19, _ => rfl
  | 20, _ => rfl
  | 21, _ => rfl
  | 22, _ => rfl
  | 23, _ => rfl
  | 24, _ => rfl
  | 25, _ => rfl
  | 26, _ => rfl
  | 27, _ => rfl
  | 28, _ => rfl
  | 29, _ => rfl
  | 30, _ => rfl
  | 31, _ => rfl
  | 32, _ => rfl
  | 33, _ => rfl
  | 34, _ => rfl
  | 35, _ => rfl
  | 36, _ => rfl
  | 37, _ => rfl
  | 38, _ => rfl
  | 39, _ => rfl
  | 40, _ => rfl
  | 41, _ => rfl
  | 42, _ => rfl
  | 43, _ => rfl
  | 44, _ => rfl
  | 45, _ => rfl
  | 46, _ => rfl
  | 47, _ => rfl
  | 48, _ => rfl
  | 49, _ => rfl
  | 50, _ => rfl
  | 51, _ => rfl
  | 52, _ => rfl
  | 53, _ => rfl
  | 54, _ => rfl
  | 55, _ => rfl
  | 56, _ => rfl
  | 57, _ => rfl
  | 58, _ => rfl
  | 59, _ => rfl
  | 60, _ => rfl
  | 61, _ => rfl
  | 62, _ => rfl
  | 63, _ => rfl
  | 64, _ => rfl
  | 65, _ => rfl
  | 66, _ => rfl
  | 67, _ => rfl
  | 68, _ => rfl
  | 69, _ => rfl
  | 70, _ => rfl
  | 71, _ => rfl
  | 72, _ => rfl
  | 73, _ => rfl
  | 74, _ => rfl
  | 75, _ => rfl
  | 76, _ => rfl
  | 77, _ => rfl
  | 78, _ => rfl
  | 79, _ => rfl
  | 80, _ => rfl
  | 81, _ => rfl
  | 82, _ => rfl
  | 83, _ => rfl
  | 84, _ => rfl
  | 85, _ => rfl
  | 86, _ => rfl
  | 87, _ => rfl
  | 88, _ => rfl
  | 89, _ => rfl
  | 90, _ => rfl
  | 91, _ => rfl
  | 92, _ => rfl
  | 93, _ => rfl
  | 94, _ => rfl
  | 95, _ => rfl
  | 96, _ => rfl
  | 97, _ => rfl
  | 98, _ => rfl
  | 99, _ => rfl
  | 100, _ => rfl
  | 101, _ => rfl
  | 102, _ => rfl
  | 103, _ => rfl
  | 104, _ => rfl
  | 105, _ => rfl
  | 106, _ => rfl
  | 107, _ => rfl
  | 108, _ => rfl
  | 109, _ => rfl
  | 110, _ => rfl
  | 111, _ => rfl
  | 112, _ => rfl
  | 113, _ => rfl
  | 114, _ => rfl
  | 115, _ => rfl
  | 116, _ => rfl
  | 117, _ => rfl
  | 118, _ => rfl
  | 119, _ => rfl
  | 120, _ => rfl
  | 121, _ => rfl
  | 122, _ => rfl
  | 123, _ => rfl
  | 124, _ => rfl
  | 125, _ => rfl
  | 126, _ => rfl
  | 127, _ => rfl
  | 128, _ => rfl
  | 129, _ => rfl
  | 130, _ => rfl
  | 131, _ => rfl
  | 132, _ => rfl
  | 133, _ => rfl
  | 134, _ => rfl
  | 135, _ => rfl
  | 136, _ => rfl
  | 137, _ => rfl
  | 138, _ => rfl
  | 139, _ => rfl
  | 140, _ => rfl
  | 141, _ => rfl
  | 142, _ => rfl
  | 143, _ => rfl
  | 144, _ => rfl
  | 145, _ => rfl
  | 146, _ => rfl
  | 147, _ => rfl
  | 148, _ => rfl
  | 149, _ => rfl
  | 150, _ => rfl
  | 151, _ => rfl
  | 152, _ => rfl
  | 153, _ => rfl
  | 154, _ => rfl
  | 155, _ => rfl
  | 156, _ => rfl
  | 157, _ => rfl
  | 158, _ => rfl
  | 159, _ => rfl
  | 160, _ => rfl
  | 161, _ => rfl
  | 162, _ => rfl
  | 163, _ => rfl
  | 164, _ => rfl
  | 165, _ => rfl
  | 166, _ => rfl
  | 167, _ => rfl
  | 168, _ => rfl
  | 169, _ => rfl
  | 170, _ => rfl
  | 171, _ => rfl
  | 172, _ => rfl
  | 173, _ => rfl
  | 174, _ => rfl
  | 175, _ => rfl
  | 176, _ => rfl
  | 177, _ => rfl
  | 178, _ => rfl
  | 179, _ => rfl
  | _ + 180, h => exact absurd h (by omega)
end Go.Proofs.YtbblokikhocdfaaDoor.S7
