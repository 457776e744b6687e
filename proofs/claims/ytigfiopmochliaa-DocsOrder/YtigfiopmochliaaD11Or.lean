/- The walk of DocsOrder. -/
import Derived.Test.YtigfiopmochliaaD11OrB
import Derived.Test.YtigfiopmochliaaD11Cl
namespace Go.Proofs.Ytigfiopmochliaa.D11
open Go.RowKit C8 E9 P10
/-- A row of slices of bytes that came in. -/
def LR (w wr : World) (S : Nat) (l : Value) (ks : List (List Nat)) : Prop := ∃ xs, wr.ownsRow S 23 1 l ks.length xs ∧ xs.length = ks.length ∧ ∀ j (h : j < ks.length), ∃ p c, xs[j]? = some (.slice p ks[j].length c) ∧ Src w (.slice p ks[j].length c) ks[j]
theorem LR.nil (w wr : World) (S : Nat) : LR w wr S (.slice none 0 0) [] := ⟨[], own_none _ _ _ _, rfl, fun j hj => by cases hj⟩
section
variable {w wr w' : World} {S : Nat} {l : Value} {ks : List (List Nat)}
theorem LR.slice (h : LR w wr S l ks) : ∃ q c, l = .slice q ks.length c := by
  obtain ⟨xs, h1, _⟩ := h
  exact own_slice h1
theorem LR.at (h : LR w wr S l ks) {j : Nat} (hj : j < ks.length) : ∃ g c' p c, l = .slice (some ⟨g, 0, none⟩) ks.length c' ∧ wr.cell? ⟨g, j, none⟩ = some (.slice p ks[j].length c) ∧ Src w (.slice p ks[j].length c) ks[j] := by
  obtain ⟨xs, h1, h2, h3⟩ := h
  obtain ⟨p, c, k1, k2⟩ := h3 j hj
  obtain ⟨g, c', e1, _, _, _, e2⟩ := own_at h1 hj k1
  exact ⟨g, c', p, c, e1, e2, k2⟩
theorem LR.below (h : LR w wr S l ks) (hb : Below wr.heap.size wr w') : LR w w' S l ks := by
  obtain ⟨xs, h1, h2⟩ := h
  exact ⟨xs, own_below h1 hb, h2⟩
theorem LR.map {bs : List Nat} (h : LR w wr S l ks) (ho : Only bs wr w') (hm : ∀ g ∈ bs, ∃ es c, wr.heap[g]? = some (.map es c)) : LR w w' S l ks := by
  obtain ⟨xs, ⟨h1, ⟨e1, e0⟩ | ⟨g, cap, cur, e1, hg, hh, hr⟩⟩, h2⟩ := h
  · exact ⟨xs, ⟨h1, .inl ⟨e1, e0⟩⟩, h2⟩
  · have hn : g ∉ bs := fun e => by
      obtain ⟨es, c, hx⟩ := hm g e
      rw [hh] at hx
      cases hx
    exact ⟨xs, ⟨h1, .inr ⟨g, cap, cur, e1, hg, (ho.block g (Array.getElem?_eq_some_iff.1 hh).1 hn).trans hh, hr⟩⟩, h2⟩
theorem snoc_at {xs : List Value} {x : Value} {k : List Nat} (h2 : xs.length = ks.length) (h3 : ∀ j (h : j < ks.length), ∃ p c, xs[j]? = some (.slice p ks[j].length c) ∧ Src w (.slice p ks[j].length c) ks[j]) {p : Option Addr} {c : Nat} (hx : x = .slice p k.length c) (hs : Src w (.slice p k.length c) k) :
    (xs ++ [x]).length = (ks ++ [k]).length ∧ ∀ j (h : j < (ks ++ [k]).length), ∃ p c, (xs ++ [x])[j]? = some (.slice p (ks ++ [k])[j].length c) ∧ Src w (.slice p (ks ++ [k])[j].length c) (ks ++ [k])[j] := by
  refine ⟨by simp [h2], fun j hj => ?_⟩
  by_cases e : j < ks.length
  · obtain ⟨p', c', k1, k2⟩ := h3 j e
    rw [List.getElem_append_left e, List.getElem?_append_left (by omega)]
    exact ⟨p', c', k1, k2⟩
  · have e2 : j = ks.length := by simp at hj; omega
    subst e2
    refine ⟨p, c, ?_, ?_⟩
    · rw [List.getElem?_append_right (by omega), h2]
      simp [hx]
    · simpa using hs
end
theorem Seen.isMap {w : World} {b n : Nat} {ss : List (List Nat)} (h : Seen w b n ss) : ∀ g ∈ [b], ∃ es c, w.heap[g]? = some (.map es c) := fun g hg => by
  rw [List.mem_singleton.1 hg]
  obtain ⟨D, ⟨es, c, h1, _⟩, _⟩ := h
  exact ⟨es, c, h1⟩
theorem Seen.grown {w w' : World} {b n m base : Nat} {ss : List (List Nat)} {v : Value} {xs : List Value} (h : Seen w b n ss) (ho : w.ownsRow base 23 1 v m xs) (hg : w.grownBy w' v.ownBlock) : Seen w' b n ss := by
  obtain ⟨_, ⟨rfl, _⟩ | ⟨g, cap, cur, rfl, _, hh, _⟩⟩ := ho
  · exact h.only (Only.of_grown (bs := []) hg (fun x hx => by cases hx)) (by simp)
  · refine h.only (Only.of_grown (bs := [g]) hg (fun x hx => by cases hx; simp)) (fun e => ?_)
    obtain ⟨es, c, hx⟩ := h.isMap b (by simp)
    rw [List.mem_singleton.1 e, hh] at hx
    cases hx
theorem length_ins_new {k v : List Nat} : ∀ {L : Col}, get k L = none → (ins k v L).length = L.length + 1
  | [], _ => rfl
  | p :: r, h => by
    rw [get_cons] at h
    have hp : ¬ p.1 = k := fun e => by rw [if_pos e] at h; cases h
    rw [if_neg hp] at h
    unfold ins
    split
    · rfl
    · simp only [List.length_cons, length_ins_new h]
/-- Names that are there once each, put one behind the other. -/
theorem Has.next {L : Col} {ks : List (List Nat)} {j : Nat} (h : Has L (ks.take j)) (hl : L.length = j) (hn : ks.Nodup) (hj : j < ks.length) (hb : ∀ x ∈ ks[j], x < 256) (h64 : ks[j].length ≤ 64) : Has (ins ks[j] (ks[j] ++ [118]) L) (ks.take (j + 1)) ∧ (ins ks[j] (ks[j] ++ [118]) L).length = j + 1 := by
  have e := List.take_succ_eq_append_getElem hj
  refine ⟨by rw [e]; exact h.put hb h64, ?_⟩
  rw [length_ins_new, hl]
  rw [h.2.2, if_neg]
  have hs : (ks.take (j + 1)).Nodup := hn.sublist (List.take_sublist _ _)
  rw [e, List.nodup_append] at hs
  exact fun hm => hs.2.2 _ hm _ (by simp) rfl
theorem strB_v (k : List Nat) : strB k ++ { data := #[118] } = strB (k ++ [118]) := by
  apply bytes_eq
  rw [ByteArray.data_append, Array.toList_append, u_strB]
  simp [u]
end Go.Proofs.Ytigfiopmochliaa.D11
