/- Wraps that are made one by one; a policy in its box. -/
import Derived.Test.YtmlnbbggfjgacaaP10Gr1
namespace Go.Proofs.Ytmlnbbggfjgacaa.P10
open Go.RowKit C8 E9
/-- The policy in its box. -/
structure PS (w W : World) (b : Nat) (f e : Int) (q : Option Addr) (nn c : Nat) (R : Int → Int) : Prop where
  bel : Below w.heap.size w W
  lo : w.heap.size ≤ b
  box : W.heap[b]? = some (.cells #[.int .i64 f, .int .i64 e, .slice q nn c] 26 (0, 0))
  told : Told3 0 W f e q nn c R
section
variable {w W W' : World} {b : Nat} {f e : Int} {q : Option Addr} {nn c : Nat} {R : Int → Int}
theorem PS.step (h : PS w W b f e q nn c R) (hb : Below W.heap.size W W') : PS w W' b f e q nn c R :=
  ⟨h.bel.trans (bel_le hb h.bel.size), h.lo, (hb.block _ (Array.getElem?_eq_some_iff.1 h.box).1).trans h.box, h.told.below hb⟩
theorem PS.lt (h : PS w W b f e q nn c R) : b < W.heap.size := (Array.getElem?_eq_some_iff.1 h.box).1
theorem PS.cells (h : PS w W b f e q nn c R) : W.cell? ⟨b, 0, none⟩ = some (.int .i64 f) ∧ W.cell? ⟨b, 1, none⟩ = some (.int .i64 e) ∧ W.cell? ⟨b, 2, none⟩ = some (.slice q nn c) ∧ W.frozen? ⟨b, 0, none⟩ = false ∧ W.frozen? ⟨b, 1, none⟩ = false ∧ W.frozen? ⟨b, 2, none⟩ = false :=
  ⟨by rw [cell_of_row _ _ _ _ _ _ h.box]; rfl, by rw [cell_of_row _ _ _ _ _ _ h.box]; rfl, by rw [cell_of_row _ _ _ _ _ _ h.box]; rfl, frozen_of_row _ _ _ _ _ h.box, frozen_of_row _ _ _ _ _ h.box, frozen_of_row _ _ _ _ _ h.box⟩
theorem PS.put (h : PS w W b f e q nn c R) {e1 : Int} {q1 : Option Addr} {n1 c1 : Nat} {R1 : Int → Int} {B : Nat} (hT : Told3 B W 1 e1 q1 n1 c1 R1) (hB : b < B) :
    PS w (((W.setCell ⟨b, 0, none⟩ (.int .i64 1)).setCell ⟨b, 1, none⟩ (.int .i64 e1)).setCell ⟨b, 2, none⟩ (.slice q1 n1 c1)) b 1 e1 q1 n1 c1 R1 := by
  have o3 := only3 W b (.int .i64 1) (.int .i64 e1) (.slice q1 n1 c1)
  exact ⟨h.bel.trans (o3.below h.bel.size (by have := h.lo; simp; omega)), h.lo, row3 h.box _ _ _, (hT.only o3 (by simpa using hB)).old (Nat.zero_le _)⟩
theorem PS.start (hb : Below w.heap.size w W) (hT : Told3 0 W 1 0 q 1 c (fun x => if 1 = x then 7 else 0)) : PS w (W.alloc (.cells #[.int .i64 1, .int .i64 0, .slice q 1 c] 26)) W.heap.size 1 0 q 1 c (fun x => if 1 = x then 7 else 0) :=
  ⟨hb.trans (bel_alloc hb.size _), hb.size, heap_alloc_new W _, hT.below (bel_alloc (Nat.le_refl _) _)⟩
end
/-- Blocks of bytes stay. -/
def K5 (u u' : World) : Prop := ∀ (g : Nat) (C : Array Value) (fr : Nat × Nat), u.heap[g]? = some (.cells C 5 fr) → u'.heap[g]? = some (.cells C 5 fr)
def z48 : Array Value := (List.replicate 48 (Value.int .u8 0)).toArray
/-- Wraps of noughts, two cells each. -/
def AreZ (u : World) : List Value → List Int → Prop
  | [], [] => True
  | c1 :: c2 :: xs, x :: ws => (c1 = .int .i64 x ∧ ∃ g, c2 = .slice (some ⟨g, 0, none⟩) 48 48 ∧ u.heap[g]? = some (.cells z48 5 (0, 0))) ∧ AreZ u xs ws
  | [], _ :: _ => False
  | [_], _ => False
  | _ :: _ :: _, [] => False
section
variable {u u' : World}
theorem AreZ.turn (hk : K5 u u') : ∀ {xs : List Value} {ws : List Int}, AreZ u xs ws → AreZ u' xs ws
  | [], [], _ => trivial
  | _ :: _ :: _, _ :: _, ⟨⟨h1, g, h2, h3⟩, h4⟩ => ⟨⟨h1, g, h2, hk g _ _ h3⟩, AreZ.turn hk h4⟩
theorem AreZ.snoc : ∀ {xs : List Value} {ws : List Int}, AreZ u xs ws → ∀ {x : Int} {g : Nat}, u.heap[g]? = some (.cells z48 5 (0, 0)) → AreZ u (xs ++ [.int .i64 x, .slice (some ⟨g, 0, none⟩) 48 48]) (ws ++ [x])
  | [], [], _, _, g, h => ⟨⟨rfl, g, rfl, h⟩, trivial⟩
  | _ :: _ :: _, _ :: _, h, _, _, hg => ⟨h.1, AreZ.snoc h.2 hg⟩
theorem AreZ.at : ∀ {xs : List Value} {ws : List Int}, AreZ u xs ws → ∀ j (hj : j < ws.length), ∃ g, xs[j * 2]? = some (.int .i64 ws[j]) ∧ xs[j * 2 + 1]? = some (.slice (some ⟨g, 0, none⟩) 48 48) ∧ u.heap[g]? = some (.cells z48 5 (0, 0))
  | [], [], _, j, hj => absurd hj (by simp)
  | _ :: _ :: _, _ :: _, ⟨⟨h1, g, h2, h3⟩, _⟩, 0, _ => ⟨g, by simp [h1], by simp [h2], h3⟩
  | _ :: _ :: _, _ :: ws, ⟨_, h5⟩, j + 1, hj => by
    obtain ⟨g, k1, k2, k3⟩ := AreZ.at h5 j (by simpa using hj)
    refine ⟨g, ?_, ?_, k3⟩
    · rw [show (j + 1) * 2 = j * 2 + 1 + 1 from by omega]
      simpa using k1
    · rw [show (j + 1) * 2 + 1 = j * 2 + 1 + 1 + 1 from by omega]
      simpa using k2
end
/-- The wraps for these numbers. -/
def zws (ws : List Int) : List (Int × List Nat) := ws.map (fun x => (x, List.replicate 48 0))
theorem zws_fst (ws : List Int) : (zws ws).map (·.1) = ws := by
  unfold zws
  rw [List.map_map]
  exact List.map_id' ws
theorem z48_src {u : World} {g : Nat} (h : u.heap[g]? = some (.cells z48 5 (0, 0))) : Src u (.slice (some ⟨g, 0, none⟩) 48 48) (List.replicate 48 0) := by
  refine ⟨fun x hx => by rw [List.eq_of_mem_replicate hx]; decide, .inr (.inr ⟨g, 0, 48, by rw [List.length_replicate], by rw [List.length_replicate]; omega, fun j v hv => ?_⟩)⟩
  rw [cell_of_row _ _ _ _ _ _ h, Nat.zero_add]
  have e : ints .u8 (List.replicate 48 0) = z48.toList := by rfl
  rw [e, Array.getElem?_toList] at hv
  exact hv
theorem AreZ.row {u : World} {xs : List Value} {ws : List Int} {base n c : Nat} {q : Option Addr} (h : AreZ u xs ws) (hown : u.ownsRow base 57 2 (.slice q n c) n xs) (hn : ws.length = n) : WrRow u q (zws ws) := fun j hj => by
  have hj0 : j < ws.length := by simpa [zws] using hj
  obtain ⟨gg, k1, k2, k3⟩ := h.at j hj0
  have e1 : (zws ws)[j] = (ws[j], List.replicate 48 0) := by simp [zws]
  obtain ⟨hl, ⟨e, h0⟩ | ⟨g, cap, cur, e, hg, hh, hnc, hm, hc, ht⟩⟩ := hown
  · omega
  · cases e
    rw [e1]
    refine ⟨g, 0, some ⟨gg, 0, none⟩, 48, rfl, (Array.getElem?_eq_some_iff.1 hh).1, ?_, ?_, ?_, by simp⟩
    · rw [cell_of_row _ _ _ _ _ _ hh, Nat.zero_add]
      rw [← ht, List.getElem?_take_of_lt (by omega)] at k1
      simpa using k1
    · rw [cell_of_row _ _ _ _ _ _ hh, Nat.zero_add]
      rw [← ht, List.getElem?_take_of_lt (by omega)] at k2
      simpa using k2
    · simpa using z48_src k3
theorem info57e : ∃ i, Try.prog.info? 57 = some i ∧ i.size = 2 ∧ i.bytes = 32 ∧ i.zero = some (.agg #[.int .i64 0, .slice none 0 0]) := info_of (by kernel_rfl)
end Go.Proofs.Ytmlnbbggfjgacaa.P10
