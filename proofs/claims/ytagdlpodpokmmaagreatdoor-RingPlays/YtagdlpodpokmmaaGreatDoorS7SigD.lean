/- The document's list in memory, and what stays of it, told by the blocks' own types. -/
import Derived.Test.YtagdlpodpokmmaaGreatDoorS7SigL
import Derived.Test.YtagdlpodpokmmaaGreatDoorS7Sum
import Derived.Maps.AppendAt
namespace Go.Proofs.YtagdlpodpokmmaaGreatDoor.S7
open Go.RowKit
def tyOf : Obj → Option TypeId
  | .cells _ t _ => some t
  | _ => none
/-- Nothing below a bound is turned, and no block but those of these types. -/
structure Kx (ts : List (Option TypeId)) (B : Nat) (u u' : World) : Prop where
  low : Below B u u'
  row : ∀ (k : Nat) (o : Obj), u.heap[k]? = some o → tyOf o ∉ ts → u'.heap[k]? = some o
section
variable {B : Nat} {u u' u'' w w' : World} {bs : List Nat} {ts ts' : List (Option TypeId)}
theorem Kx.refl (ts : List (Option TypeId)) (B : Nat) (u : World) : Kx ts B u u := ⟨Below.refl _ _, fun _ _ h _ => h⟩
theorem Kx.trans (h : Kx ts B u u') (k : Kx ts B u' u'') : Kx ts B u u'' := ⟨h.low.trans k.low, fun i o hi ht => k.row i o (h.row i o hi ht) ht⟩
theorem Kx.mono (h : Kx ts B u u') (hs : ∀ t ∈ ts, t ∈ ts') : Kx ts' B u u' := ⟨h.low, fun i o hi ht => h.row i o hi (fun e => ht (hs _ e))⟩
theorem Kx.of_below (h : Below u.heap.size u u') (hB : B ≤ u.heap.size) : Kx ts B u u' :=
  ⟨h.mono hB, fun k _ hk _ => (h.block k (Array.getElem?_eq_some_iff.1 hk).1).trans hk⟩
theorem Kx.of_only (h : Only bs u u') (hB : B ≤ u.heap.size) (hs : ∀ y ∈ bs, B ≤ y ∧ ∀ o, u.heap[y]? = some o → tyOf o ∈ ts) : Kx ts B u u' :=
  ⟨h.below hB (fun y hy => (hs y hy).1), fun k o hk ht => (h.block k (Array.getElem?_eq_some_iff.1 hk).1 (fun e => ht ((hs k e).2 o hk))).trans hk⟩
/-- As Src, of a block below the bound or of a row of bytes. -/
def By (B : Nat) (w : World) (v : Value) (l : List Nat) : Prop :=
  (∀ x ∈ l, x < 256) ∧ ((v = .slice none 0 0 ∧ l = []) ∨ (∃ ad c, v = .slice (some ad) 0 c ∧ l = []) ∨ ∃ b o c, v = .slice (some ⟨b, o, none⟩) l.length c ∧ l.length ≤ c ∧ w.rangeAt b o (ints .u8 l) ∧ (b < B ∨ ∃ cs fr, w.heap[b]? = some (.cells cs 5 fr)))
variable {v : Value} {l : List Nat}
theorem By.src (h : By B w v l) : Src w v l := by
  obtain ⟨hs, h1 | h1 | ⟨b, o, c, rfl, hc, hr, _⟩⟩ := h
  · exact ⟨hs, .inl h1⟩
  · exact ⟨hs, .inr (.inl h1)⟩
  · exact ⟨hs, .inr (.inr ⟨b, o, c, rfl, hc, hr⟩)⟩
theorem By.kx (h : By B w v l) (hk : Kx ts B w w') (h5 : some 5 ∉ ts) : By B w' v l := by
  obtain ⟨hs, h1 | h1 | ⟨b, o, c, rfl, hc, hr, hb⟩⟩ := h
  · exact ⟨hs, .inl h1⟩
  · exact ⟨hs, .inr (.inl h1)⟩
  · rcases hb with hb | ⟨cs, fr, hb⟩
    · exact ⟨hs, .inr (.inr ⟨b, o, c, rfl, hc, range_kept hr (hk.low.block b hb), .inl hb⟩)⟩
    · have h2 := hk.row b _ hb h5
      exact ⟨hs, .inr (.inr ⟨b, o, c, rfl, hc, range_kept hr (h2.trans hb.symm), .inr ⟨cs, fr, h2⟩⟩)⟩
theorem By.below (h : By B w v l) (hk : Below w.heap.size w w') : By B w' v l := by
  obtain ⟨hs, h1 | h1 | ⟨b, o, c, rfl, hc, hr, hb⟩⟩ := h
  · exact ⟨hs, .inl h1⟩
  · exact ⟨hs, .inr (.inl h1)⟩
  · refine ⟨hs, .inr (.inr ⟨b, o, c, rfl, hc, rangeAt_below hk hr, ?_⟩)⟩
    rcases hb with hb | ⟨cs, fr, hb⟩
    · exact .inl hb
    · exact .inr ⟨cs, fr, (hk.block b (Array.getElem?_eq_some_iff.1 hb).1).trans hb⟩
theorem By.old (h : Src w v l) (hB : w.heap.size ≤ B) : By B w v l := by
  obtain ⟨hs, h1 | h1 | ⟨b, o, c, rfl, hc, hr⟩⟩ := h
  · exact ⟨hs, .inl h1⟩
  · exact ⟨hs, .inr (.inl h1)⟩
  · by_cases h0 : l = []
    · subst h0
      exact ⟨hs, .inr (.inl ⟨_, _, rfl, rfl⟩)⟩
    · refine ⟨hs, .inr (.inr ⟨b, o, c, rfl, hc, hr, .inl (Nat.lt_of_lt_of_le (range_lt hr ?_) hB)⟩)⟩
      intro e
      apply h0
      have := congrArg List.length e
      rw [ints_length] at this
      exact List.eq_nil_of_length_eq_zero this
theorem By.own {base n : Nat} (hs : ∀ x ∈ l, x < 256) (h : w.ownsRow base 5 1 v n (ints .u8 l)) : By B w v l := by
  obtain ⟨hs', h1 | h1 | ⟨b, o, c, rfl, hc, hr⟩⟩ := Src.own hs h
  · exact ⟨hs, .inl h1⟩
  · exact ⟨hs, .inr (.inl h1)⟩
  · refine ⟨hs, .inr (.inr ⟨b, o, c, rfl, hc, hr, .inr ?_⟩)⟩
    obtain ⟨_, ⟨e, _⟩ | ⟨g, cap, cur, e, _, hh, _⟩⟩ := h
    · cases e
    · cases e
      exact ⟨_, _, hh⟩
theorem By.nil (B : Nat) (w : World) : By B w (.slice none 0 0) [] := ⟨fun x hx => by simp at hx, .inl ⟨rfl, rfl⟩⟩
end
abbrev Cl := Nat × Value × Value × Value × Value
def cl5 (c : Cl) : List Value := [.int .i64 (c.1 : Int), c.2.1, c.2.2.1, c.2.2.2.1, c.2.2.2.2]
def flat (cs : List Cl) : List Value := cs.flatMap cl5
theorem flat_length (cs : List Cl) : (flat cs).length = cs.length * 5 := by
  induction cs with
  | nil => rfl
  | cons c r ih =>
    show (cl5 c ++ flat r).length = _
    rw [List.length_append, ih, List.length_cons]
    simp [cl5]
    omega
theorem flat_get : ∀ (cs : List Cl) (i j : Nat) (c : Cl), cs[i]? = some c → j < 5 → (flat cs)[i * 5 + j]? = (cl5 c)[j]?
  | [], i, j, c, h, _ => by simp at h
  | c' :: r, 0, j, c, h, hj => by
    simp at h
    subst h
    show (cl5 c' ++ flat r)[0 * 5 + j]? = _
    rw [Nat.zero_mul, Nat.zero_add, List.getElem?_append_left (by simpa [cl5] using hj)]
  | c' :: r, i + 1, j, c, h, hj => by
    show (cl5 c' ++ flat r)[(i + 1) * 5 + j]? = _
    have e : (cl5 c').length = 5 := rfl
    rw [List.getElem?_append_right (by omega), e, show (i + 1) * 5 + j - 5 = i * 5 + j from by omega]
    exact flat_get r i j c (by simpa using h) hj
theorem flat_snoc (cs : List Cl) (c : Cl) : flat (cs ++ [c]) = flat cs ++ cl5 c := by simp [flat]
structure ThIs (B : Nat) (w : World) (c : Cl) (u : Su.Thing) : Prop where
  sort : c.1 = u.1
  key : By B w c.2.1 u.2.1
  nonce : By B w c.2.2.1 u.2.2.1
  other : By B w c.2.2.2.1 u.2.2.2.1
  text : By B w c.2.2.2.2 u.2.2.2.2
structure DocIs (B : Nat) (w : World) (d : Nat) (v : Value) (cs : List Cl) (L : List Su.Thing) : Prop where
  low : B ≤ d
  box : w.heap[d]? = some (.cells #[v] 30 (0, 0))
  row : w.ownsRow B 83 5 v L.length (flat cs)
  len : cs.length = L.length
  all : ∀ (i : Nat) (c : Cl) (u : Su.Thing), cs[i]? = some c → L[i]? = some u → ThIs B w c u
def Doc (B : Nat) (w : World) (d : Nat) (L : List Su.Thing) : Prop := ∃ v cs, DocIs B w d v cs L
section
variable {B d : Nat} {u u' u'' w w' : World} {ts : List (Option TypeId)} {v : Value} {cs : List Cl} {L : List Su.Thing}
theorem ThIs.kx {c : Cl} {t : Su.Thing} (h : ThIs B w c t) (hk : Kx ts B w w') (h5 : some 5 ∉ ts) : ThIs B w' c t := ⟨h.sort, h.key.kx hk h5, h.nonce.kx hk h5, h.other.kx hk h5, h.text.kx hk h5⟩
theorem ThIs.below {c : Cl} {t : Su.Thing} (h : ThIs B w c t) (hk : Below w.heap.size w w') : ThIs B w' c t := ⟨h.sort, h.key.below hk, h.nonce.below hk, h.other.below hk, h.text.below hk⟩
theorem DocIs.below (h : DocIs B w d v cs L) (hk : Below w.heap.size w w') : DocIs B w' d v cs L :=
  ⟨h.low, (hk.block d (Array.getElem?_eq_some_iff.1 h.box).1).trans h.box, own_only h.row (Only.of_below hk []) (fun _ _ e => by simp at e), h.len, fun i c t h1 h2 => (h.all i c t h1 h2).below hk⟩
theorem DocIs.kx (h : DocIs B w d v cs L) (hk : Kx ts B w w') (h5 : some 5 ∉ ts) (h30 : some 30 ∉ ts) (h71 : some 83 ∉ ts) : DocIs B w' d v cs L := by
  refine ⟨h.low, hk.row d _ h.box h30, ?_, h.len, fun i c t h1 h2 => (h.all i c t h1 h2).kx hk h5⟩
  obtain ⟨hl, h1 | ⟨g, cap, cur, rfl, hg, hh, hr⟩⟩ := h.row
  · exact ⟨hl, .inl h1⟩
  · exact ⟨hl, .inr ⟨g, cap, cur, rfl, hg, hk.row g _ hh h71, hr⟩⟩
theorem Doc.kx (h : Doc B w d L) (hk : Kx ts B w w') (h5 : some 5 ∉ ts) (h30 : some 30 ∉ ts) (h71 : some 83 ∉ ts) : Doc B w' d L := by
  obtain ⟨v, cs, h⟩ := h
  exact ⟨v, cs, h.kx hk h5 h30 h71⟩
theorem Doc.below (h : Doc B w d L) (hk : Below w.heap.size w w') : Doc B w' d L := by
  obtain ⟨v, cs, h⟩ := h
  exact ⟨v, cs, h.below hk⟩
/-- The list's i-th thing. -/
theorem DocIs.at (h : DocIs B w d v cs L) {i : Nat} (hi : i < L.length) : ∃ g cap c, v = .slice (some ⟨g, 0, none⟩) L.length cap ∧ L.length ≤ cap ∧ ThIs B w c L[i] ∧ w.cell? ⟨g, i * 5, none⟩ = some (.int .i64 (L[i].1 : Int)) ∧ w.cell? ⟨g, i * 5 + 1, none⟩ = some c.2.1 ∧ w.cell? ⟨g, i * 5 + 2, none⟩ = some c.2.2.1 ∧ w.cell? ⟨g, i * 5 + 3, none⟩ = some c.2.2.2.1 ∧ w.cell? ⟨g, i * 5 + 4, none⟩ = some c.2.2.2.2 := by
  have hc : cs[i]? = some (cs[i]'(by rw [h.len]; exact hi)) := List.getElem?_eq_getElem _
  have hu : L[i]? = some L[i] := List.getElem?_eq_getElem _
  have ht := h.all i _ _ hc hu
  generalize cs[i]'(by rw [h.len]; exact hi) = c at *
  obtain ⟨hl, ⟨rfl, h0⟩ | ⟨g, cap, cur, rfl, hg, hh, hn, hm, hcur, htk⟩⟩ := h.row
  · omega
  · have get : ∀ j, j < 5 → w.cell? ⟨g, i * 5 + j, none⟩ = (cl5 c)[j]? := fun j hj => by
      rw [cell_of_row _ _ _ _ _ _ hh, ← flat_get cs i j c hc hj, ← htk, List.getElem?_take_of_lt (by omega)]
      simp
    have g0 := get 0 (by omega)
    have g1 := get 1 (by omega)
    have g2 := get 2 (by omega)
    have g3 := get 3 (by omega)
    have g4 := get 4 (by omega)
    refine ⟨g, cap, c, rfl, hn, ht, ?_, g1, g2, g3, g4⟩
    rw [← ht.sort]
    exact g0
end
theorem info71e : ∃ i, Tryz.prog.info? 83 = some i ∧ i.size = 5 ∧ i.bytes = 104 ∧ i.zero = some (.agg #[.int .i64 0, .slice none 0 0, .slice none 0 0, .slice none 0 0, .slice none 0 0]) := info_of (by kernel_rfl)
/-- One thing is appended. -/
theorem law_append_thing {ops : Array Oper} {rest : List Oper} {dst : Option Tmp} {T : TypeId} {pos : String} {after : Array Edge} {a : Act} {w : World} {Q : Exit → Act → World → Prop} {so xo : Operand}
    (B : Nat) (v : Value) (n : Nat) (xs : List Value) (g : Nat) (c : Cl) (hs : a.eval so = v) (hx : a.eval xo = .slice (some ⟨g, 0, none⟩) 1 1) (hown : w.ownsRow B 83 5 v n xs) (hc : w.rangeAt g 0 (cl5 c)) (hu : ∀ y ∈ cl5 c, y.oneCell' = true)
    (hn : n ≤ 1000000) (hbase : B ≤ w.heap.size)
    (h : ∀ v' w', w'.ownsRow B 83 5 v' (n + 1) (xs ++ cl5 c) → w.grownBy w' v.ownBlock → wpList Tryz.prog ops Q rest (a.put dst v') w') :
    wpList Tryz.prog ops Q ({ dst := dst, op := .call { callee := .builtin .append, args := #[so, xo], argTypes := #[28, 28] }, type := T, pos := pos, after := after, guard := none } :: rest) a w := by
  obtain ⟨i, hi, hsz, hby, hz⟩ := info71e
  refine wpList_append_own_at _ rfl so xo 28 rfl B 83 i _ 5 104 Tryz.underlying28 hi hz hsz hby rfl (by decide) v n xs hs hown ⟨g, 0, none⟩ 1 1 (cl5 c) hx rfl (fun j y hy => ?_) hu (by unfold maxLen; omega) (by omega) hbase (fun v' w' h1 h2 _ _ => h v' w' h1 h2)
  rw [Addr.add_mid]
  exact hc j y hy
theorem slice_one {w : World} {v : Value} {l : List Nat} (h : Src w v l) : v.oneCell' = true := by
  obtain ⟨p, c, rfl, _⟩ := h.slice
  rfl
end Go.Proofs.YtagdlpodpokmmaaGreatDoor.S7
