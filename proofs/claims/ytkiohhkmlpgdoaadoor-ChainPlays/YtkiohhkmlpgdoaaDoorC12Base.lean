/- A chain in memory. -/
import Derived.Test.YtkiohhkmlpgdoaaDoorC12Join
import Derived.Test.YtkiohhkmlpgdoaaDoorS7SigD
import Derived.Laws.ResultCell
import Derived.Deep.QuietTactic
import Derived.BigQuiet
namespace Go.Proofs.YtkiohhkmlpgdoaaDoor.S7
open Go.RowKit
/-- Two slices lie in unlike blocks. -/
def Ap (v v' : Value) : Prop := ∀ b, v.ownBlock = some b → v'.ownBlock ≠ some b
theorem Ap.symm {v v' : Value} (h : Ap v v') : Ap v' v := fun b hb e => h b e hb
/-- A row of one's own of rows of bytes. -/
structure RowB (B : Nat) (w : World) (v : Value) (xs : List Value) (ls : List (List Nat)) : Prop where
  own : w.ownsRow B 23 1 v ls.length xs
  len : xs.length = ls.length
  all : ∀ (i : Nat) (x : Value) (l : List Nat), xs[i]? = some x → ls[i]? = some l → By B w x l
/-- The types whose blocks a chain's steps may turn: maps, rows of rows, suites, chains. -/
abbrev TS : List (Option TypeId) := [none, some 23, some 69, some 73]
section
variable {B : Nat} {w w' : World} {v : Value} {xs : List Value} {ls : List (List Nat)} {ts : List (Option TypeId)}
theorem RowB.nil (B : Nat) (w : World) : RowB B w (.slice none 0 0) [] [] := ⟨own_none _ _ _ _, rfl, fun i x l h _ => by simp at h⟩
theorem RowB.slice (h : RowB B w v xs ls) : ∃ q c, v = .slice q ls.length c := own_slice h.own
theorem RowB.at (h : RowB B w v xs ls) {j : Nat} (hj : j < ls.length) : ∃ g c x, v = .slice (some ⟨g, 0, none⟩) ls.length c ∧ B ≤ g ∧ w.cell? ⟨g, j, none⟩ = some x ∧ By B w x ls[j] := by
  obtain ⟨hl, ⟨e1, e0⟩ | ⟨g, cap, cur, e1, hg, hh, hn, hm, hc, ht⟩⟩ := h.own
  · omega
  · have hx : j < xs.length := by rw [h.len]; exact hj
    refine ⟨g, cap, xs[j], e1, hg, ?_, h.all j _ _ (List.getElem?_eq_getElem hx) (List.getElem?_eq_getElem hj)⟩
    have k1 : xs[j]? = some xs[j] := List.getElem?_eq_getElem hx
    conv at k1 => lhs; rw [← ht]
    rw [Nat.mul_one, List.getElem?_take_of_lt hj] at k1
    rw [cell_of_row _ _ _ _ _ _ hh]
    simpa using k1
theorem RowB.lt (h : RowB B w v xs ls) : ∀ b, v.ownBlock = some b → b < w.heap.size := fun b hb => by
  obtain ⟨_, ⟨rfl, _⟩ | ⟨g, cap, cur, rfl, _, hh, _⟩⟩ := h.own
  · cases hb
  · cases hb; exact (Array.getElem?_eq_some_iff.1 hh).1
theorem RowB.ty (h : RowB B w v xs ls) : ∀ b, v.ownBlock = some b → B ≤ b ∧ ∃ cs, w.heap[b]? = some (.cells cs 23 (0, 0)) := fun b hb => by
  obtain ⟨_, ⟨rfl, _⟩ | ⟨g, cap, cur, rfl, hg, hh, _⟩⟩ := h.own
  · cases hb
  · cases hb; exact ⟨hg, _, hh⟩
theorem RowB.keep (h : RowB B w v xs ls) (hk : Kx ts B w w') (h5 : some 5 ∉ ts) (hb : ∀ b, v.ownBlock = some b → w'.heap[b]? = w.heap[b]?) : RowB B w' v xs ls := by
  refine ⟨?_, h.len, fun i x l h1 h2 => (h.all i x l h1 h2).kx hk h5⟩
  obtain ⟨hl, h1 | ⟨g, cap, cur, rfl, hg, hh, hr⟩⟩ := h.own
  · exact ⟨hl, .inl h1⟩
  · exact ⟨hl, .inr ⟨g, cap, cur, rfl, hg, (hb g rfl).trans hh, hr⟩⟩
theorem RowB.below (h : RowB B w v xs ls) (hb : Below w.heap.size w w') : RowB B w' v xs ls :=
  ⟨own_only h.own (Only.of_below hb []) (fun _ _ => by simp), h.len, fun i x l h1 h2 => (h.all i x l h1 h2).below hb⟩
theorem snoc_get {α : Type} {l : List α} {x y : α} {i : Nat} (h : (l ++ [x])[i]? = some y) : (i < l.length ∧ l[i]? = some y) ∨ (i = l.length ∧ y = x) := by
  by_cases hi : i < l.length
  · rw [List.getElem?_append_left hi] at h
    exact .inl ⟨hi, h⟩
  · have h2 := (List.getElem?_eq_some_iff.1 h).1
    have e : i = l.length := by simp at h2; omega
    subst e
    simp at h
    exact .inr ⟨rfl, h.symm⟩
/-- A row that has grown by one. -/
theorem RowB.push {v' x : Value} {l : List Nat} (h : RowB B w v xs ls) (ho : w'.ownsRow B 23 1 v' (ls.length + 1) (xs ++ [x])) (hk : Kx ts B w w') (h5 : some 5 ∉ ts) (hx : By B w' x l) : RowB B w' v' (xs ++ [x]) (ls ++ [l]) := by
  refine ⟨by rw [List.length_append]; exact ho, by simp [h.len], fun i y m h1 h2 => ?_⟩
  rcases snoc_get h1 with ⟨a1, a2⟩ | ⟨a1, rfl⟩
  · rcases snoc_get h2 with ⟨b1, b2⟩ | ⟨b1, _⟩
    · exact (h.all i y m a2 b2).kx hk h5
    · rw [← h.len] at b1; omega
  · rcases snoc_get h2 with ⟨b1, b2⟩ | ⟨b1, rfl⟩
    · rw [← h.len] at b1; omega
    · exact hx
end
/-- A chain: its own block, its rows of links and of sums. -/
structure ChIs (B : Nat) (w : World) (c p : Nat) (lv sv : Value) (ls ss : List (List Nat)) : Prop where
  low : B ≤ c
  box : w.heap[c]? = some (.cells #[.pointer (some ⟨p, 0, none⟩), lv, sv] 73 (0, 0))
  links : ∃ xs, RowB B w lv xs ls
  sums : ∃ xs, RowB B w sv xs ss
  ap : Ap lv sv
section
variable {B : Nat} {w w' : World} {c p : Nat} {lv sv : Value} {ls ss : List (List Nat)} {ts : List (Option TypeId)}
theorem ChIs.cells (h : ChIs B w c p lv sv ls ss) : w.cell? ⟨c, 0, none⟩ = some (.pointer (some ⟨p, 0, none⟩)) ∧ w.cell? ⟨c, 1, none⟩ = some lv ∧ w.cell? ⟨c, 2, none⟩ = some sv ∧ ∀ i, w.frozen? ⟨c, i, none⟩ = false := cells3 h.box
theorem ChIs.lt (h : ChIs B w c p lv sv ls ss) : c < w.heap.size := (Array.getElem?_eq_some_iff.1 h.box).1
theorem ChIs.keep (h : ChIs B w c p lv sv ls ss) (hk : Kx ts B w w') (h5 : some 5 ∉ ts) (hc : w'.heap[c]? = w.heap[c]?) (hl : ∀ b, lv.ownBlock = some b → w'.heap[b]? = w.heap[b]?) (hs : ∀ b, sv.ownBlock = some b → w'.heap[b]? = w.heap[b]?) : ChIs B w' c p lv sv ls ss := by
  obtain ⟨xs, hx⟩ := h.links
  obtain ⟨ys, hy⟩ := h.sums
  exact ⟨h.low, hc.trans h.box, ⟨xs, hx.keep hk h5 hl⟩, ⟨ys, hy.keep hk h5 hs⟩, h.ap⟩
theorem ChIs.below (h : ChIs B w c p lv sv ls ss) (hb : Below w.heap.size w w') : ChIs B w' c p lv sv ls ss := by
  obtain ⟨xs, hx⟩ := h.links
  obtain ⟨ys, hy⟩ := h.sums
  exact ⟨h.low, (hb.block c h.lt).trans h.box, ⟨xs, hx.below hb⟩, ⟨ys, hy.below hb⟩, h.ap⟩
/-- The blocks that a chain's own steps may turn. -/
def fp (c : Nat) (lv sv : Value) : List Nat := c :: (lv.ownBlock.toList ++ sv.ownBlock.toList)
theorem mem_fp {y : Nat} : y ∈ fp c lv sv ↔ y = c ∨ lv.ownBlock = some y ∨ sv.ownBlock = some y := by
  unfold fp
  rw [List.mem_cons, List.mem_append]
  simp
theorem ChIs.fpty (h : ChIs B w c p lv sv ls ss) : ∀ y ∈ fp c lv sv, B ≤ y ∧ ∀ o, w.heap[y]? = some o → tyOf o ∈ TS := fun y hy => by
  obtain ⟨xs, hx⟩ := h.links
  obtain ⟨ys, hys⟩ := h.sums
  rcases mem_fp.1 hy with rfl | e | e
  · exact ⟨h.low, fun o ho => by rw [h.box] at ho; cases ho; simp [TS, tyOf]⟩
  · obtain ⟨a, cs, b⟩ := hx.ty y e
    exact ⟨a, fun o ho => by rw [b] at ho; cases ho; simp [TS, tyOf]⟩
  · obtain ⟨a, cs, b⟩ := hys.ty y e
    exact ⟨a, fun o ho => by rw [b] at ho; cases ho; simp [TS, tyOf]⟩
end
end Go.Proofs.YtkiohhkmlpgdoaaDoor.S7
