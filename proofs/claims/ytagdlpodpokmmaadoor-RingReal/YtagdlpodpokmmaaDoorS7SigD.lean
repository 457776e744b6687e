/- The document's list in memory, and what stays of it, told by the blocks' own types. -/
import Derived.Test.YtagdlpodpokmmaaDoorS7SigL
import Derived.Test.YtagdlpodpokmmaaDoorS7Sum
import Derived.Maps.AppendAt
namespace Go.Proofs.YtagdlpodpokmmaaDoor.S7
open Go.RowKit
def tyOf : Obj → Option TypeId
  | .cells _ t _ => some t
  | _ => none
/-- Nothing below a bound is turned, and no block but those of these types. -/
structure Kx (ts : List (Option TypeId)) (B : Nat) (u u' : World) : Prop where
  low : Below B u u'
  row : ∀ (k : Nat) (o : Obj), u.heap[k]? = some o → tyOf o ∉ ts → u'.heap[k]? = some o
section
variable {B : Nat} {u u' u'' w w' : World} {bs : List Nat} {ts ts' : List (Option TypeId)}
theorem Kx.refl (ts : List (Option TypeId)) (B : Nat) (u : World) : Kx ts B u u := ⟨Below.refl _ _, fun _ _ h _ => h⟩
theorem Kx.trans (h : Kx ts B u u') (k : Kx ts B u' u'') : Kx ts B u u'' := ⟨h.low.trans k.low, fun i o hi ht => k.row i o (h.row i o hi ht) ht⟩
theorem Kx.mono (h : Kx ts B u u') (hs : ∀ t ∈ ts, t ∈ ts') : Kx ts' B u u' := ⟨h.low, fun i o hi ht => h.row i o hi (fun e => ht (hs _ e))⟩
theorem Kx.of_below (h : Below u.heap.size u u') (hB : B ≤ u.heap.size) : Kx ts B u u' :=
  ⟨h.mono hB, fun k _ hk _ => (h.block k (Array.getElem?_eq_some_iff.1 hk).1).trans hk⟩
theorem Kx.of_only (h : Only bs u u') (hB : B ≤ u.heap.size) (hs : ∀ y ∈ bs, B ≤ y ∧ ∀ o, u.heap[y]? = some o → tyOf o ∈ ts) : Kx ts B u u' :=
  ⟨h.below hB (fun y hy => (hs y hy).1), fun k o hk ht => (h.block k (Array.getElem?_eq_some_iff.1 hk).1 (fun e => ht ((hs k e).2 o hk))).trans hk⟩
/-- As Src, of a block below the bound or of a row of bytes. -/
def By (B : Nat) (w : World) (v : Value) (l : List Nat) : Prop :=
  (∀ x ∈ l, x < 256) ∧ ((v = .slice none 0 0 ∧ l = []) ∨ (∃ ad c, v = .slice (some ad) 0 c ∧ l = []) ∨ ∃ b o c, v = .slice (some ⟨b, o, none⟩) l.length c ∧ l.length ≤ c ∧ w.rangeAt b o (ints .u8 l) ∧ (b < B ∨ ∃ cs fr, w.heap[b]? = some (.cells cs 5 fr)))
variable {v : Value} {l : List Nat}
theorem By.src (h : By B w v l) : Src w v l := by
  obtain ⟨hs, h1 | h1 | ⟨b, o, c, rfl, hc, hr, _⟩⟩ := h
  · exact ⟨hs, .inl h1⟩
  · exact ⟨hs, .inr (.inl h1)⟩
  · exact ⟨hs, .inr (.inr ⟨b, o, c, rfl, hc, hr⟩)⟩
theorem By.kx (h : By B w v l) (hk : Kx ts B w w') (h5 : some 5 ∉ ts) : By B w' v l := by
  obtain ⟨hs, h1 | h1 | ⟨b, o, c, rfl, hc, hr, hb⟩⟩ := h
  · exact ⟨hs, .inl h1⟩
  · exact ⟨hs, .inr (.inl h1)⟩
  · rcases hb with hb | ⟨cs, fr, hb⟩
    · exact ⟨hs, .inr (.inr ⟨b, o, c, rfl, hc, range_kept hr (hk.low.block b hb), .inl hb⟩)⟩
    · have h2 := hk.row b _ hb h5
      exact ⟨hs, .inr (.inr ⟨b, o, c, rfl, hc, range_kept hr (h2.trans hb.symm), .inr ⟨cs, fr, h2⟩⟩)⟩
theorem By.below (h : By B w v l) (hk : Below w.heap.size w w') : By B w' v l := by
  obtain ⟨hs, h1 | h1 | ⟨b, o, c, rfl, hc, hr, hb⟩⟩ := h
  · exact ⟨hs, .inl h1⟩
  · exact ⟨hs, .inr (.inl h1)⟩
  · refine ⟨hs, .inr (.inr ⟨b, o, c, rfl, hc, rangeAt_below hk hr, ?_⟩)⟩
    rcases hb with hb | ⟨cs, fr, hb⟩
    · exact .inl hb
    · exact .inr ⟨cs, fr, (hk.block b (Array.getElem?_eq_some_iff.1 hb).1).trans hb⟩
theorem By.old (h : Src w v l) (hB : w.heap.size ≤ B) : By B w v l := by
  obtain ⟨hs, h1 | h1 | ⟨b, o, c, rfl, hc, hr⟩⟩ := h
  · exact ⟨hs, .inl h1⟩
  · exact ⟨hs, .inr (.inl h1)⟩
  · by_cases h0 : l = []
    · subst h0
      exact ⟨hs, .inr (.inl ⟨_, _, rfl, rfl⟩)⟩
    · refine ⟨hs, .inr (.inr ⟨b, o, c, rfl, hc, hr, .inl (Nat.lt_of_lt_of_le (range_lt hr ?_) hB)⟩)⟩
      intro e
      apply h0
      have := congrArg List.length e
      rw [ints_length] at this
      exact List.eq_nil_of_length_eq_zero this
theorem By.own {base n : Nat} (hs : ∀ x ∈ l, x < 256) (h : w.ownsRow base 5 1 v n (ints .u8 l)) : By B w v l := by
  obtain ⟨hs', h1 | h1 | ⟨b, o, c, rfl, hc, hr⟩⟩ := Src.own hs h
  · exact ⟨hs, .inl h1⟩
  · exact ⟨hs, .inr (.inl h1)⟩
  · refine ⟨hs, .inr (.inr ⟨b, o, c, rfl, hc, hr, .inr ?_⟩)⟩
    obtain ⟨_, ⟨e, _⟩ | ⟨g, cap, cur, e, _, hh, _⟩⟩ := h
    · cases e
    · cases e
      exact ⟨_, _, hh⟩
theorem By.nil (B : Nat) (w : World) : By B w (.slice none 0 0) [] := ⟨fun x hx => by simp at hx, .inl ⟨rfl, rfl⟩⟩
end
abbrev Cl := Nat × Value × Value × Value × Value
def cl5 (c : Cl) : List Value := [.int .i64 (c.1 : Int), c.2.1, c.2.2.1, c.2.2.2.1, c.2.2.2.2]
def flat (cs : List Cl) : List Value := cs.flatMap cl5
theorem flat_length (cs : List Cl) : (flat cs).length = cs.length * 5 := by
  induction cs with
  | nil => rfl
  | cons c r ih =>
    show (cl5 c ++ flat r).length = _
    rw [List.length_append, ih, List.length_cons]
    simp [cl5]
    omega
theorem flat_get : ∀ (cs : List Cl) (i j : Nat) (c : Cl), cs[i]? = some c → j < 5 → (flat cs)[i * 5 + j]? = (cl5 c)[j]?
  | [], i, j, c, h, _ => by simp at h
  | c' :: r, 0, j, c, h, hj => by
    simp at h
    subst h
    show (cl5 c' ++ flat r)[0 * 5 + j]? = _
    rw [Nat.zero_mul, Nat.zero_add, List.getElem?_append_left (by simpa [cl5] using hj)]
  | c' :: r, i + 1, j, c, h, hj => by
    show (cl5 c' ++ flat r)[(i + 1) * 5 + j]? = _
    have e : (cl5 c').length = 5 := rfl
    rw [List.getElem?_append_right (by omega), e, show (i + 1) * 5 + j - 5 = i * 5 + j from by omega]
    exact flat_get r i j c (by simpa using h) hj
theorem flat_snoc (cs : List Cl) (c : Cl) : flat (cs ++ [c]) = flat cs ++ cl5 c := by simp [flat]
structure ThIs (B : Nat) (w : World) (c : Cl) (u : Su.Thing) : Prop where
  sort : c.1 = u.1
  key : By B w c.2.1 u.2.1
  nonce : By B w c.2.2.1 u.2.2.1
  other : By B w c.2.2.2.1 u.2.2.2.1
  text : By B w c.2.2.2.2 u.2.2.2.2
section
variable {B d : Nat} {u u' u'' w w' : World} {ts : List (Option TypeId)} {v : Value} {cs : List Cl} {L : List Su.Thing}
theorem ThIs.kx {c : Cl} {t : Su.Thing} (h : ThIs B w c t) (hk : Kx ts B w w') (h5 : some 5 ∉ ts) : ThIs B w' c t := ⟨h.sort, h.key.kx hk h5, h.nonce.kx hk h5, h.other.kx hk h5, h.text.kx hk h5⟩
theorem ThIs.below {c : Cl} {t : Su.Thing} (h : ThIs B w c t) (hk : Below w.heap.size w w') : ThIs B w' c t := ⟨h.sort, h.key.below hk, h.nonce.below hk, h.other.below hk, h.text.below hk⟩
end
theorem slice_one {w : World} {v : Value} {l : List Nat} (h : Src w v l) : v.oneCell' = true := by
  obtain ⟨p, c, rfl, _⟩ := h.slice
  rfl
end Go.Proofs.YtagdlpodpokmmaaDoor.S7
