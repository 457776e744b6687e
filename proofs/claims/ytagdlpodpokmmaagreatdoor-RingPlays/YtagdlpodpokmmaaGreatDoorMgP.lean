/- RingPlays: what stands between two of its steps. -/
import Derived.Test.YtagdlpodpokmmaaGreatDoorMgR
import Derived.Test.YtagdlpodpokmmaaGreatDoorR14Rr
import Derived.Test.YtagdlpodpokmmaaGreatDoorR14Op
namespace Go.Proofs.YtagdlpodpokmmaaGreatDoor.S7
open Go.RowKit
/-- A suite of signs and the document's list, a ring and the document's, and the answers that were told. -/
structure Pg (w W : World) (p q m x d r rd : Nat) (v : Value) (k : Nat) (xs : List Value) (ts : List (List Nat)) (L1 L2 : List Su.Thing) (k1 k2 : Nat → Option (List Nat)) : Prop where
  bel : Below w.heap.size w W
  su : Sw w.heap.size W p q m x L1
  doc : Doc w.heap.size W d L2
  rg : ∃ ys, RgIs w.heap.size W r ys k1
  rr : ∃ ys, RgD w.heap.size W rd ys k2
  row : W.ownsRow w.heap.size 22 1 v k xs
  lx : xs.length = k
  lt : ts.length = k
  all : ∀ (i : Nat) (y : Value) (l : List Nat), xs[i]? = some y → ts[i]? = some l → By w.heap.size W y l
  l100 : ∀ l ∈ ts, l.length ≤ 100
  shr : Shr L1
/-- The copy of a step. -/
structure Cp5 (B : Nat) (W : World) (pe : Nat) (k0 n0 m0 r0 : Int) (dv : Value) (dt : List Nat) : Prop where
  low : B ≤ pe
  box : W.heap[pe]? = some (.cells #[.int .i64 k0, .int .i64 n0, .int .i64 m0, .int .i64 r0, dv] 37 (0, 0))
  data : By B W dv dt
  ld : dt.length ≤ 100
abbrev TA : List (Option TypeId) := [none, some 63, some 30, some 83, some 65, some 51]
section
variable {w W W' : World} {p q m x d r rd : Nat} {v : Value} {k : Nat} {xs : List Value} {ts : List (List Nat)} {L1 L2 L1' L2' : List Su.Thing} {k1 k2 k1' k2' : Nat → Option (List Nat)} {B pe : Nat} {k0 n0 m0 r0 : Int} {dv : Value} {dt : List Nat}
theorem Pg.size (h : Pg w W p q m x d r rd v k xs ts L1 L2 k1 k2) : w.heap.size ≤ W.heap.size := h.bel.size
theorem own_kx {e size n base : Nat} {ys : List Value} {tt : List (Option TypeId)} {u : Value} (h : W.ownsRow base e size u n ys) (hk : Kx tt B W W') (ht : some e ∉ tt) : W'.ownsRow base e size u n ys := by
  obtain ⟨hl, h1 | ⟨g, cap, cur, rfl, hg, hh, hr⟩⟩ := h
  · exact ⟨hl, .inl h1⟩
  · exact ⟨hl, .inr ⟨g, cap, cur, rfl, hg, hk.row g _ hh ht, hr⟩⟩
theorem Cp5.below (h : Cp5 B W pe k0 n0 m0 r0 dv dt) (hb : Below W.heap.size W W') : Cp5 B W' pe k0 n0 m0 r0 dv dt :=
  ⟨h.low, (hb.block _ (Array.getElem?_eq_some_iff.1 h.box).1).trans h.box, h.data.below hb, h.ld⟩
theorem Cp5.kx {tt : List (Option TypeId)} (h : Cp5 B W pe k0 n0 m0 r0 dv dt) (hk : Kx tt B W W') (h5 : some 5 ∉ tt) (ho : some 37 ∉ tt) : Cp5 B W' pe k0 n0 m0 r0 dv dt :=
  ⟨h.low, hk.row _ _ h.box ho, h.data.kx hk h5, h.ld⟩
theorem Cp5.cells (h : Cp5 B W pe k0 n0 m0 r0 dv dt) : W.cell? ⟨pe, 0, none⟩ = some (.int .i64 k0) ∧ W.cell? ⟨pe, 1, none⟩ = some (.int .i64 n0) ∧ W.cell? ⟨pe, 2, none⟩ = some (.int .i64 m0) ∧ W.cell? ⟨pe, 3, none⟩ = some (.int .i64 r0) ∧ W.cell? ⟨pe, 4, none⟩ = some dv ∧ ∀ i, W.frozen? ⟨pe, i, none⟩ = false := by
  refine ⟨?_, ?_, ?_, ?_, ?_, fun i => frozen_of_row _ _ _ _ _ h.box⟩ <;> (rw [cell_of_row _ _ _ _ _ _ h.box]; rfl)
theorem Pg.below (h : Pg w W p q m x d r rd v k xs ts L1 L2 k1 k2) (hb : Below W.heap.size W W') : Pg w W' p q m x d r rd v k xs ts L1 L2 k1 k2 := by
  obtain ⟨y1, hr1⟩ := h.rg
  obtain ⟨y2, hr2⟩ := h.rr
  exact ⟨h.bel.trans (hb.mono h.bel.size), h.su.below hb, h.doc.below hb, ⟨y1, hr1.below hb⟩, ⟨y2, hr2.below hb⟩, own_only h.row (Only.of_below hb []) (fun _ _ e => by simp at e), h.lx, h.lt, fun i y l h1 h2 => (h.all i y l h1 h2).below hb, h.l100, h.shr⟩
/-- Behind a call of the program's suite. -/
theorem Pg.side1 (h : Pg w W p q m x d r rd v k xs ts L1 L2 k1 k2) (hk : Kx TU w.heap.size W W') (hs : Sw w.heap.size W' p q m x L1') (ht : Shr L1') : Pg w W' p q m x d r rd v k xs ts L1' L2 k1 k2 := by
  obtain ⟨y1, hr1⟩ := h.rg
  obtain ⟨y2, hr2⟩ := h.rr
  exact ⟨h.bel.trans hk.low, hs, h.doc.kx hk (by decide) (by decide) (by decide), ⟨y1, hr1.kx hk (by decide) (by decide)⟩, ⟨y2, hr2.kx hk (by decide) (by decide)⟩, own_kx h.row hk (by decide), h.lx, h.lt, fun i y l h1 h2 => (h.all i y l h1 h2).kx hk (by decide), h.l100, ht⟩
/-- Behind a call of the document's. -/
theorem Pg.side2 (h : Pg w W p q m x d r rd v k xs ts L1 L2 k1 k2) (hk : Kx TD w.heap.size W W') (hd : Doc w.heap.size W' d L2') : Pg w W' p q m x d r rd v k xs ts L1 L2' k1 k2 := by
  obtain ⟨y1, hr1⟩ := h.rg
  obtain ⟨y2, hr2⟩ := h.rr
  exact ⟨h.bel.trans hk.low, h.su.kx hk (by decide) (by decide) (by decide), hd, ⟨y1, hr1.kx hk (by decide) (by decide)⟩, ⟨y2, hr2.kx hk (by decide) (by decide)⟩, own_kx h.row hk (by decide), h.lx, h.lt, fun i y l h1 h2 => (h.all i y l h1 h2).kx hk (by decide), h.l100, h.shr⟩
/-- The program's ring has learned. -/
theorem Pg.learn1 (h : Pg w W p q m x d r rd v k xs ts L1 L2 k1 k2) (hk : Kx [some 65] w.heap.size W W') (hr : ∃ ys, RgIs w.heap.size W' r ys k1') : Pg w W' p q m x d r rd v k xs ts L1 L2 k1' k2 := by
  obtain ⟨y2, hr2⟩ := h.rr
  exact ⟨h.bel.trans hk.low, h.su.kx hk (by decide) (by decide) (by decide), h.doc.kx hk (by decide) (by decide) (by decide), hr, ⟨y2, hr2.kx hk (by decide) (by decide)⟩, own_kx h.row hk (by decide), h.lx, h.lt, fun i y l h1 h2 => (h.all i y l h1 h2).kx hk (by decide), h.l100, h.shr⟩
/-- The document's has. -/
theorem Pg.learn2 (h : Pg w W p q m x d r rd v k xs ts L1 L2 k1 k2) (hk : Kx [some 51] w.heap.size W W') (hr : ∃ ys, RgD w.heap.size W' rd ys k2') : Pg w W' p q m x d r rd v k xs ts L1 L2 k1 k2' := by
  obtain ⟨y1, hr1⟩ := h.rg
  exact ⟨h.bel.trans hk.low, h.su.kx hk (by decide) (by decide) (by decide), h.doc.kx hk (by decide) (by decide) (by decide), ⟨y1, hr1.kx hk (by decide) (by decide)⟩, hr, own_kx h.row hk (by decide), h.lx, h.lt, fun i y l h1 h2 => (h.all i y l h1 h2).kx hk (by decide), h.l100, h.shr⟩
/-- A cell of the copy is set. -/
theorem Cp5.set (h : Cp5 B W pe k0 n0 m0 r0 dv dt) {y : Value} {l : List Nat} (hy : By B W y l) (hl : l.length ≤ 100) : Kx [some 37] B W (W.setCell ⟨pe, 4, none⟩ y) ∧ Cp5 B (W.setCell ⟨pe, 4, none⟩ y) pe k0 n0 m0 r0 y l := by
  have hk : Kx [some 37] B W (W.setCell ⟨pe, 4, none⟩ y) := Kx.of_only (Only.setCell (bs := [pe]) _ _ _ (by simp)) (by have := (Array.getElem?_eq_some_iff.1 h.box).1; have := h.low; omega) (fun z hz => by
    rw [List.mem_singleton.1 hz]
    exact ⟨h.low, fun o ho => by rw [h.box] at ho; cases ho; simp [tyOf]⟩)
  exact ⟨hk, h.low, heap_setCell_same W pe 4 _ 37 y h.box, hy.kx hk (by decide), hl⟩
theorem Pg.op (h : Pg w W p q m x d r rd v k xs ts L1 L2 k1 k2) (hk : Kx [some 37] w.heap.size W W') : Pg w W' p q m x d r rd v k xs ts L1 L2 k1 k2 := by
  obtain ⟨y1, hr1⟩ := h.rg
  obtain ⟨y2, hr2⟩ := h.rr
  exact ⟨h.bel.trans hk.low, h.su.kx hk (by decide) (by decide) (by decide), h.doc.kx hk (by decide) (by decide) (by decide), ⟨y1, hr1.kx hk (by decide) (by decide)⟩, ⟨y2, hr2.kx hk (by decide) (by decide)⟩, own_kx h.row hk (by decide), h.lx, h.lt, fun i y l h1 h2 => (h.all i y l h1 h2).kx hk (by decide), h.l100, h.shr⟩
/-- An answer that was told. -/
theorem Pg.at (h : Pg w W p q m x d r rd v k xs ts L1 L2 k1 k2) {i : Nat} (hi : i < k) : ∃ g cap y l, v = .slice (some ⟨g, 0, none⟩) k cap ∧ k ≤ cap ∧ W.cell? ⟨g, i, none⟩ = some y ∧ By w.heap.size W y l ∧ l.length ≤ 100 := by
  obtain ⟨hl, ⟨rfl, h0⟩ | ⟨g, cap, cur, rfl, hg, hh, hn, hm, hc, htk⟩⟩ := h.row
  · omega
  · have ex : xs[i]? = some (xs[i]'(by rw [h.lx]; exact hi)) := List.getElem?_eq_getElem _
    have et : ts[i]? = some (ts[i]'(by rw [h.lt]; exact hi)) := List.getElem?_eq_getElem _
    refine ⟨g, cap, _, _, rfl, hn, ?_, h.all i _ _ ex et, h.l100 _ (List.getElem_mem _)⟩
    rw [cell_of_row _ _ _ _ _ _ hh, ← ex, ← htk, List.getElem?_take_of_lt (by omega)]
    simp
/-- One more answer. -/
theorem Pg.push {v' u : Value} {l : List Nat} (h : Pg w W p q m x d r rd v k xs ts L1 L2 k1 k2) (ho : W'.ownsRow w.heap.size 22 1 v' (k + 1) (xs ++ [u])) (hg : W.grownBy W' v.ownBlock) (hu : By w.heap.size W u l) (hl : l.length ≤ 100) : Pg w W' p q m x d r rd v' (k + 1) (xs ++ [u]) (ts ++ [l]) L1 L2 k1 k2 := by
  have hb : Below w.heap.size W W' := below_append h.row hg h.bel.size
  have hk : Kx [some 22] w.heap.size W W' := by
    refine ⟨hb, fun i o hi ht => ?_⟩
    by_cases e : v.ownBlock = some i
    · exfalso
      obtain ⟨_, ⟨rfl, _⟩ | ⟨g, cap, cur, rfl, _, hh, _⟩⟩ := h.row
      · cases e
      · cases e
        rw [hh] at hi
        cases hi
        exact ht (by simp [tyOf])
    · exact (hg.block i (Array.getElem?_eq_some_iff.1 hi).1 (fun e2 => e e2.symm)).trans hi
  obtain ⟨y1, hr1⟩ := h.rg
  obtain ⟨y2, hr2⟩ := h.rr
  refine ⟨h.bel.trans hb, h.su.kx hk (by decide) (by decide) (by decide), h.doc.kx hk (by decide) (by decide) (by decide), ⟨y1, hr1.kx hk (by decide) (by decide)⟩, ⟨y2, hr2.kx hk (by decide) (by decide)⟩, ho, by simp [h.lx], by simp [h.lt], fun i y l' h1 h2 => ?_, fun l' hl' => ?_, h.shr⟩
  · by_cases hi : i < k
    · rw [List.getElem?_append_left (by rw [h.lx]; exact hi)] at h1
      rw [List.getElem?_append_left (by rw [h.lt]; exact hi)] at h2
      exact (h.all i y l' h1 h2).kx hk (by decide)
    · rw [List.getElem?_append_right (by rw [h.lx]; omega), h.lx] at h1
      rw [List.getElem?_append_right (by rw [h.lt]; omega), h.lt] at h2
      by_cases e : i - k = 0
      · rw [e] at h1 h2
        simp at h1 h2
        subst h1 h2
        exact hu.kx hk (by decide)
      · rw [List.getElem?_eq_none (by simp; omega)] at h1
        cases h1
  · rcases List.mem_append.1 hl' with hl' | hl'
    · exact h.l100 l' hl'
    · rw [List.mem_singleton.1 hl']
      exact hl
end
end Go.Proofs.YtagdlpodpokmmaaGreatDoor.S7
/- RingPlays: calls on both sides, the program's first. -/
namespace Go.Proofs.YtagdlpodpokmmaaGreatDoor.S7
open Go.RowKit
theorem tu_ta : ∀ t ∈ TU, t ∈ TA := by decide
theorem rg_ta : ∀ t ∈ ([some 65] : List (Option TypeId)), t ∈ TA := by decide
theorem rr_ta : ∀ t ∈ ([some 51] : List (Option TypeId)), t ∈ TA := by decide
theorem td_ta : ∀ t ∈ TD, t ∈ TA := by decide
section
variable {w W : World} {p q m x d r rd : Nat} {v : Value} {k : Nat} {xs : List Value} {ts : List (List Nat)} {L : List Su.Thing} {ks : Nat → Option (List Nat)} {sv dv : Value} {sl dt : List Nat}
theorem pMember (h : Pg w W p q m x d r rd v k xs ts L L ks ks) (hL : L.length < 900000) (hk : By w.heap.size W sv sl) (n : Nat) (hn : 1 ≤ n ∧ n ≤ 16) :
    (Calls Tryz.prog 9 #[.pointer (some ⟨p, 0, none⟩), sv, .int .i64 (n : Int)] W fun e W1 => ∃ u, e = .returned (.tuple #[u, .int .i64 0]) ∧ By w.heap.size W1 u (mk L sl memB n) ∧ Pg w W1 p q m x d r rd v k xs ts (adk L sl memB n) L ks ks ∧ Kx TA w.heap.size W W1) ∧
    ∀ W1, Pg w W1 p q m x d r rd v k xs ts (adk L sl memB n) L ks ks → By w.heap.size W1 sv sl → Calls Tryz.prog 10 #[.pointer (some ⟨d, 0, none⟩), sv, .string ⟨#[109, 101, 109, 98, 101, 114]⟩, .int .i64 (n : Int)] W1 fun e W2 => ∃ u, e = .returned u ∧ By w.heap.size W2 u (mk L sl memB n) ∧ Pg w W2 p q m x d r rd v k xs ts (adk L sl memB n) (adk L sl memB n) ks ks ∧ Kx TD w.heap.size W1 W2 := by
  refine ⟨(Member_s h.su (by omega) h.size hk n hn).mono ?_, fun W1 h1 hk1 => ?_⟩
  · rintro e W1 ⟨u, rfl, k1, k2, k3⟩
    exact ⟨u, rfl, By.own (mk_small _ _ _ _) k1, h.side1 k3.kx k2 (h.shr.adk sl memB n mem_ok.2), k3.kx.mono tu_ta⟩
  · rw [memS]
    refine (rDerived_any h1.doc (by omega) h1.size hk1 memB mem_ok.1 mem_ok.2 n (by omega)).mono ?_
    rintro e W2 ⟨u, rfl, k1, k2, k3⟩
    exact ⟨u, rfl, By.own (mk_small _ _ _ _) k1, h1.side2 k3 k2, k3⟩
theorem pWriter (h : Pg w W p q m x d r rd v k xs ts L L ks ks) (hL : L.length < 900000) (hk : By w.heap.size W sv sl) (n : Nat) (hn : 1 ≤ n ∧ n ≤ 16) :
    (Calls Tryz.prog 8 #[.pointer (some ⟨p, 0, none⟩), sv, .int .i64 (n : Int)] W fun e W1 => ∃ u, e = .returned (.tuple #[u, .int .i64 0]) ∧ By w.heap.size W1 u (mk L sl wriB n) ∧ Pg w W1 p q m x d r rd v k xs ts (adk L sl wriB n) L ks ks ∧ Kx TA w.heap.size W W1) ∧
    ∀ W1, Pg w W1 p q m x d r rd v k xs ts (adk L sl wriB n) L ks ks → By w.heap.size W1 sv sl → Calls Tryz.prog 10 #[.pointer (some ⟨d, 0, none⟩), sv, .string ⟨#[119, 114, 105, 116, 101, 114]⟩, .int .i64 (n : Int)] W1 fun e W2 => ∃ u, e = .returned u ∧ By w.heap.size W2 u (mk L sl wriB n) ∧ Pg w W2 p q m x d r rd v k xs ts (adk L sl wriB n) (adk L sl wriB n) ks ks ∧ Kx TD w.heap.size W1 W2 := by
  refine ⟨(Writer_s h.su (by omega) h.size hk n hn).mono ?_, fun W1 h1 hk1 => ?_⟩
  · rintro e W1 ⟨u, rfl, k1, k2, k3⟩
    exact ⟨u, rfl, By.own (mk_small _ _ _ _) k1, h.side1 k3.kx k2 (h.shr.adk sl wriB n wri_ok.2), k3.kx.mono tu_ta⟩
  · rw [wriS]
    refine (rDerived_any h1.doc (by omega) h1.size hk1 wriB wri_ok.1 wri_ok.2 n (by omega)).mono ?_
    rintro e W2 ⟨u, rfl, k1, k2, k3⟩
    exact ⟨u, rfl, By.own (mk_small _ _ _ _) k1, h1.side2 k3 k2, k3⟩
/-- What both Wraps leave. -/
def WrapSays (w W : World) (p q m x d r rd : Nat) (v : Value) (k : Nat) (xs : List Value) (ts : List (List Nat)) (L : List Su.Thing) (ks : Nat → Option (List Nat)) (sv dv : Value) (sl dt : List Nat) (n0 m0 : Int) : Prop :=
  ∃ (l : List Nat) (er : Int) (L' : List Su.Thing), l.length ≤ 100 ∧ L'.length ≤ L.length + 2 ∧
    (Calls Tryz.prog 11 #[.pointer (some ⟨p, 0, none⟩), sv, .int .i64 n0, .int .i64 m0, dv] W fun e W1 => ∃ u, e = .returned (.tuple #[u, .int .i64 er]) ∧ By w.heap.size W1 u l ∧ Pg w W1 p q m x d r rd v k xs ts L' L ks ks ∧ Kx TA w.heap.size W W1) ∧
    ∀ W1, Pg w W1 p q m x d r rd v k xs ts L' L ks ks → By w.heap.size W1 sv sl → By w.heap.size W1 dv dt → Calls Tryz.prog 12 #[.pointer (some ⟨d, 0, none⟩), sv, .int .i64 n0, .int .i64 m0, dv] W1 fun e W2 => ∃ u, e = .returned (.tuple #[u, .int .i64 er]) ∧ By w.heap.size W2 u l ∧ Pg w W2 p q m x d r rd v k xs ts L' L' ks ks ∧ Kx TD w.heap.size W1 W2
theorem pWrap (h : Pg w W p q m x d r rd v k xs ts L L ks ks) (hL : L.length < 900000) (hk : By w.heap.size W sv sl) (n0 m0 : Int) (hd : By w.heap.size W dv dt) : WrapSays w W p q m x d r rd v k xs ts L ks sv dv sl dt n0 m0 := by
  by_cases hr : (1 ≤ n0 ∧ n0 ≤ 16) ∧ 1 ≤ m0 ∧ m0 ≤ 16
  · obtain ⟨dq, dc, rfl, _⟩ := hd.src.slice
    by_cases h32 : dt.length = 32
    · obtain ⟨n, rfl⟩ : ∃ n : Nat, n0 = (n : Int) := ⟨n0.toNat, by omega⟩
      obtain ⟨e, rfl⟩ : ∃ e : Nat, m0 = (e : Int) := ⟨m0.toNat, by omega⟩
      rw [h32] at hd ⊢
      have hal := adk_length L sl memB n
      refine ⟨Su.box ((adk L sl memB n).length + 1) 32, 0, adk L sl memB n ++ [bxT L sl n e dt], ?_, ?_, (Wrap_s h.su hL h.size hk n e (by omega) (by omega) hd h32).mono ?_, fun W1 h1 hk1 hd1 => (rWrap_ok h1.doc hL h1.size hk1 n e (by omega) (by omega) hd1 h32).mono ?_⟩
      rotate_left 2
      · rintro z W1 ⟨u, rfl, ⟨k1, k2⟩, k3⟩
        exact ⟨u, rfl, By.own (Su.box_lt _ _) k1, h.side1 k3.kx k2 ((h.shr.adk sl memB n mem_ok.2).snoc (by show dt.length ≤ 50000; omega)), k3.kx.mono tu_ta⟩
      · rintro z W2 ⟨u, rfl, k1, k2, k3⟩
        exact ⟨u, rfl, By.own (Su.box_lt _ _) k1, h1.side2 k3 k2, k3⟩
      · rw [Su.box_length]; omega
      · rw [List.length_append]; simp; omega
    · refine ⟨[], 11, L, by simp, by omega, (Wrap_size W _ sv dq _ dc n0 m0 hr h32).mono ?_, fun W1 h1 _ _ => (rWrap_size W1 _ sv n0 m0 hr dq _ dc h32).mono ?_⟩
      · rintro z W1 ⟨rfl, rfl⟩
        exact ⟨_, rfl, By.nil _ _, h, Kx.refl _ _ _⟩
      · rintro z W2 ⟨rfl, rfl⟩
        exact ⟨_, rfl, By.nil _ _, h1, Kx.refl _ _ _⟩
  · refine ⟨[], 12, L, by simp, by omega, (Wrap_range W _ sv dv n0 m0 hr).mono ?_, fun W1 h1 _ _ => (rWrap_range W1 _ sv dv n0 m0 hr).mono ?_⟩
    · rintro z W1 ⟨rfl, rfl⟩
      exact ⟨_, rfl, By.nil _ _, h, Kx.refl _ _ _⟩
    · rintro z W2 ⟨rfl, rfl⟩
      exact ⟨_, rfl, By.nil _ _, h1, Kx.refl _ _ _⟩
/-- What both rings have learned. -/
def LearnSays (w W : World) (p q m x d r rd : Nat) (v : Value) (k : Nat) (xs : List Value) (ts : List (List Nat)) (L : List Su.Thing) (ks : Nat → Option (List Nat)) (dv : Value) (dt : List Nat) (n0 : Int) : Prop :=
  ∃ (er : Int) (ks' : Nat → Option (List Nat)),
    (Calls Tryz.prog 15 #[.pointer (some ⟨r, 0, none⟩), .int .i64 n0, dv] W fun e W1 => e = .returned (.int .i64 er) ∧ Pg w W1 p q m x d r rd v k xs ts L L ks' ks ∧ Kx TA w.heap.size W W1) ∧
    ∀ W1, Pg w W1 p q m x d r rd v k xs ts L L ks' ks → By w.heap.size W1 dv dt → Calls Tryz.prog 16 #[.pointer (some ⟨rd, 0, none⟩), .int .i64 n0, dv] W1 fun e W2 => e = .returned (.int .i64 er) ∧ Pg w W2 p q m x d r rd v k xs ts L L ks' ks' ∧ Kx TA w.heap.size W1 W2
theorem pLearn (h : Pg w W p q m x d r rd v k xs ts L L ks ks) (n0 : Int) (hd : By w.heap.size W dv dt) : LearnSays w W p q m x d r rd v k xs ts L ks dv dt n0 := by
  by_cases hr : 1 ≤ n0 ∧ n0 ≤ 16
  · obtain ⟨dq, dc, rfl, _⟩ := hd.src.slice
    by_cases h32 : dt.length = 32
    · obtain ⟨n, rfl⟩ : ∃ n : Nat, n0 = (n : Int) := ⟨n0.toNat, by omega⟩
      have hn : 1 ≤ n ∧ n ≤ 16 := by omega
      have hsome : ∃ ad, dq = some ad := by
        obtain ⟨_, ⟨e, rfl⟩ | ⟨ad, c, e, rfl⟩ | ⟨b, o, c, e, _⟩⟩ := hd
        · simp at h32
        · simp at h32
        · cases e; exact ⟨_, rfl⟩
      obtain ⟨ad, rfl⟩ := hsome
      rw [h32] at hd ⊢
      obtain ⟨y1, hr1⟩ := h.rg
      cases hkn : ks n with
      | some l0 =>
        refine ⟨31, ks, (Learn_twice hr1 n hn hkn (some ad) dc).mono ?_, fun W1 h1 _ => ?_⟩
        · rintro z W1 ⟨rfl, rfl⟩
          exact ⟨rfl, h, Kx.refl _ _ _⟩
        · obtain ⟨y2, hr2⟩ := h1.rr
          refine (rLearn_twice hr2 n hn hkn (some ad) dc).mono ?_
          rintro z W2 ⟨rfl, rfl⟩
          exact ⟨rfl, h1, Kx.refl _ _ _⟩
      | none =>
        refine ⟨0, lrn ks n dt, (Learn_ok hr1 n hn hkn (some ad) dc dt hd.src h.size).mono ?_, fun W1 h1 hd1 => ?_⟩
        · rintro z W1 ⟨rfl, k1, k2, _⟩
          exact ⟨rfl, h.learn1 k2 k1, k2.mono rg_ta⟩
        · obtain ⟨y2, hr2⟩ := h1.rr
          refine (rLearn_ok hr2 n hn hkn ad dc dt hd1 h32 h1.size).mono ?_
          rintro z W2 ⟨rfl, k1, k2⟩
          exact ⟨rfl, h1.learn2 k2 k1, k2.mono rr_ta⟩
    · refine ⟨11, ks, (Learn_size W _ n0 hr dq _ dc h32).mono ?_, fun W1 h1 _ => (rLearn_size W1 _ n0 hr dq _ dc h32).mono ?_⟩
      · rintro z W1 ⟨rfl, rfl⟩
        exact ⟨rfl, h, Kx.refl _ _ _⟩
      · rintro z W2 ⟨rfl, rfl⟩
        exact ⟨rfl, h1, Kx.refl _ _ _⟩
  · refine ⟨12, ks, (Learn_range W _ dv n0 hr).mono ?_, fun W1 h1 _ => (rLearn_range W1 _ dv n0 hr).mono ?_⟩
    · rintro z W1 ⟨rfl, rfl⟩
      exact ⟨rfl, h, Kx.refl _ _ _⟩
    · rintro z W2 ⟨rfl, rfl⟩
      exact ⟨rfl, h1, Kx.refl _ _ _⟩
end
end Go.Proofs.YtagdlpodpokmmaaGreatDoor.S7
/- RingPlays: Unwrap on both sides; the row of answers. -/
namespace Go.Proofs.YtagdlpodpokmmaaGreatDoor.S7
open Go.RowKit
theorem by_nb {B base : Nat} {w : World} {v : Value} {l : List Nat} (h : Src w v l) (hn : Nb base w v) : By B w v l := by
  obtain ⟨hs, h1 | h1 | ⟨b, o, c, rfl, hc, hr⟩⟩ := h
  · exact ⟨hs, .inl h1⟩
  · exact ⟨hs, .inr (.inl h1)⟩
  · obtain ⟨_, cs, fr, hh⟩ := hn b rfl
    exact ⟨hs, .inr (.inr ⟨b, o, c, rfl, hc, hr, .inr ⟨cs, fr, hh⟩⟩)⟩
theorem un32_length {rr : Option (List Nat)} {t : List Nat} (h : un32 rr = some t) : t.length = 32 := by
  cases rr with
  | none => cases h
  | some s =>
    replace h : (if s.length = 32 then some s else none) = some t := h
    by_cases e : s.length = 32
    · rw [if_pos e] at h
      cases h
      exact e
    · rw [if_neg e] at h
      cases h
section
variable {w W : World} {p q m x d r rd : Nat} {v : Value} {k : Nat} {xs : List Value} {ts : List (List Nat)} {L : List Su.Thing} {ks : Nat → Option (List Nat)} {sv dv : Value} {sl dt : List Nat}
/-- What both Unwraps leave. -/
def UnwSays (w W : World) (p q m x d r rd : Nat) (v : Value) (k : Nat) (xs : List Value) (ts : List (List Nat)) (L : List Su.Thing) (ks : Nat → Option (List Nat)) (sv dv : Value) (sl dt : List Nat) (n0 m0 : Int) : Prop :=
  ∃ (l : List Nat) (er : Int) (L' : List Su.Thing), l.length ≤ 100 ∧ L'.length ≤ L.length + 2 ∧
    (Calls Tryz.prog 13 #[.pointer (some ⟨p, 0, none⟩), sv, .int .i64 n0, .int .i64 m0, dv] W fun e W1 => ∃ u, e = .returned (.tuple #[u, .int .i64 er]) ∧ By w.heap.size W1 u l ∧ Pg w W1 p q m x d r rd v k xs ts L' L ks ks ∧ Kx TA w.heap.size W W1) ∧
    ∀ W1, Pg w W1 p q m x d r rd v k xs ts L' L ks ks → By w.heap.size W1 sv sl → By w.heap.size W1 dv dt → Calls Tryz.prog 14 #[.pointer (some ⟨d, 0, none⟩), sv, .int .i64 n0, .int .i64 m0, dv] W1 fun e W2 => ∃ u, e = .returned (.tuple #[u, .int .i64 er]) ∧ By w.heap.size W2 u l ∧ Pg w W2 p q m x d r rd v k xs ts L' L' ks ks ∧ Kx TD w.heap.size W1 W2
theorem pUnwrap (h : Pg w W p q m x d r rd v k xs ts L L ks ks) (hL : L.length < 900000) (hk : By w.heap.size W sv sl) (n0 m0 : Int) (hd : By w.heap.size W dv dt) (hdl : dt.length ≤ 100) : UnwSays w W p q m x d r rd v k xs ts L ks sv dv sl dt n0 m0 := by
  by_cases hr : (1 ≤ n0 ∧ n0 ≤ 16) ∧ 1 ≤ m0 ∧ m0 ≤ 16
  · obtain ⟨n, rfl⟩ : ∃ n : Nat, n0 = (n : Int) := ⟨n0.toNat, by omega⟩
    obtain ⟨e, rfl⟩ : ∃ e : Nat, m0 = (e : Int) := ⟨m0.toNat, by omega⟩
    have hal := adk_length L sl memB n
    obtain ⟨rr, hrr⟩ : ∃ rr, Su.opens (mk L sl memB n) (non 0 e) wraB dt 0 (adk L sl memB n) = rr := ⟨_, rfl⟩
    have c1 := Unwrap_s h.su hL h.shr h.size hk n e (by omega) (by omega) hd (by omega) hrr
    have c2 := fun (W1 : World) (h1 : Pg w W1 p q m x d r rd v k xs ts (adk L sl memB n) L ks ks) (hk1 : By w.heap.size W1 sv sl) (hd1 : By w.heap.size W1 dv dt) => rUnwrap_any h1.doc hL h.shr h1.size hk1 n e (by omega) (by omega) hd1 hrr
    clear hrr
    cases hu : un32 rr with
    | none =>
      rw [hu] at c1
      simp only [hu] at c2
      refine ⟨[], 20, adk L sl memB n, by simp, by omega, c1.mono ?_, fun W1 h1 hk1 hd1 => (c2 W1 h1 hk1 hd1).mono ?_⟩
      · rintro z W1 ⟨k1, k2, k3⟩
        obtain rfl : z = _ := k1
        exact ⟨_, rfl, By.nil _ _, h.side1 k3.kx k2 (h.shr.adk sl memB n mem_ok.2), k3.kx.mono tu_ta⟩
      · rintro z W2 ⟨k1, k2, k3⟩
        obtain rfl : z = _ := k1
        exact ⟨_, rfl, By.nil _ _, h1.side2 k3 k2, k3⟩
    | some t =>
      rw [hu] at c1
      simp only [hu] at c2
      refine ⟨t, 0, adk L sl memB n, by have := un32_length hu; omega, by omega, c1.mono ?_, fun W1 h1 hk1 hd1 => (c2 W1 h1 hk1 hd1).mono ?_⟩
      · rintro z W1 ⟨k1, k2, k3⟩
        obtain ⟨u, rfl, hs, hn⟩ := k1
        exact ⟨u, rfl, by_nb hs hn, h.side1 k3.kx k2 (h.shr.adk sl memB n mem_ok.2), k3.kx.mono tu_ta⟩
      · rintro z W2 ⟨k1, k2, k3⟩
        obtain ⟨u, rfl, hs⟩ := k1
        exact ⟨u, rfl, hs, h1.side2 k3 k2, k3⟩
  · refine ⟨[], 12, L, by simp, by omega, (Unwrap_range W _ sv dv n0 m0 hr).mono ?_, fun W1 h1 _ _ => (rUnwrap_range W1 _ sv dv n0 m0 hr).mono ?_⟩
    · rintro z W1 ⟨rfl, rfl⟩
      exact ⟨_, rfl, By.nil _ _, h, Kx.refl _ _ _⟩
    · rintro z W2 ⟨rfl, rfl⟩
      exact ⟨_, rfl, By.nil _ _, h1, Kx.refl _ _ _⟩
end
theorem infoBe : ∃ i, Tryz.prog.info? 22 = some i ∧ i.size = 1 ∧ i.bytes = 24 ∧ i.zero = some (.slice none 0 0) := info_of (by kernel_rfl)
theorem law_append_told {ops : Array Oper} {rest : List Oper} {dst : Option Tmp} {T : TypeId} {pos : String} {after : Array Edge} {a : Act} {w : World} {Q : Exit → Act → World → Prop} {so xo : Operand}
    (base : Nat) (v : Value) (n : Nat) (xs : List Value) (g : Nat) (u : Value) (hs : a.eval so = v) (hx : a.eval xo = .slice (some ⟨g, 0, none⟩) 1 1) (hown : w.ownsRow base 22 1 v n xs) (hc : w.cell? ⟨g, 0, none⟩ = some u) (hu : u.oneCell' = true)
    (hn : n ≤ 1000) (hbase : base ≤ w.heap.size)
    (h : ∀ v' w', w'.ownsRow base 22 1 v' (n + 1) (xs ++ [u]) → w.grownBy w' v.ownBlock → wpList Tryz.prog ops Q rest (a.put dst v') w') :
    wpList Tryz.prog ops Q ({ dst := dst, op := .call { callee := .builtin .append, args := #[so, xo], argTypes := #[35, 35] }, type := T, pos := pos, after := after, guard := none } :: rest) a w := by
  obtain ⟨i, hi, hsz, hby, hz⟩ := infoBe
  refine wpList_append_own_at _ rfl so xo 35 rfl base 22 i _ 1 24 Tryz.underlying35 hi hz hsz hby rfl (by decide) v n xs hs hown ⟨g, 0, none⟩ 1 1 [u] hx rfl (fun j y hy => ?_) (fun y hy => by rw [List.mem_singleton.1 hy]; exact hu) (by unfold maxLen; omega) (by omega) hbase (fun v' w' h1 h2 _ _ => h v' w' h1 h2)
  rw [Addr.add_mid]
  have : j = 0 := by
    have := (List.getElem?_eq_some_iff.1 hy).1
    simpa using this
  subst this
  simp at hy
  subst hy
  exact hc
end Go.Proofs.YtagdlpodpokmmaaGreatDoor.S7
