/- SuiteOnce: what was told, row by row. -/
import Derived.Test.YtbblokikhocdfaaDoorS7Facts
import Derived.Test.YtbblokikhocdfaaDoorS7St
import Derived.Test.YtbblokikhocdfaaDoorS7OnceE
import Derived.Maps.AppendAt
namespace Go.Proofs.YtbblokikhocdfaaDoor.S7
open Go.RowKit
/-- The rows of bytes behind a slice. -/
def RowsIs (w : World) (q : Option Addr) (ls : List (List Nat)) : Prop :=
  ∀ j (h : j < ls.length), ∃ b o sv, q = some ⟨b, o, none⟩ ∧ b < w.heap.size ∧ w.cell? ⟨b, o + j, none⟩ = some sv ∧ Old w.heap.size w sv ls[j] ∧ ls[j].length ≤ 9223372036854775807
theorem RowsIs.below {w w' : World} {q : Option Addr} {ls : List (List Nat)} (h : RowsIs w q ls) (hb : Below w.heap.size w w') : ∀ j (hj : j < ls.length), ∃ b o sv, q = some ⟨b, o, none⟩ ∧ b < w.heap.size ∧ w'.cell? ⟨b, o + j, none⟩ = some sv ∧ Old w.heap.size w' sv ls[j] ∧ ls[j].length ≤ 9223372036854775807 := fun j hj => by
  obtain ⟨b, o, sv, h1, h2, h3, h4, h5⟩ := h j hj
  exact ⟨b, o, sv, h1, h2, (hb.cell (p := ⟨b, o + j, none⟩) h2).trans h3, h4.keep hb, h5⟩
/-- A sign in a row of its own, apart from both rows of rows. -/
def SgAt (w : World) (B : Nat) (v6 v7 u : Value) (l : List Nat) : Prop := (∃ g c, u = .slice (some ⟨g, 0, none⟩) 32 c ∧ B ≤ g ∧ g < w.heap.size ∧ v6.ownBlock ≠ some g ∧ v7.ownBlock ≠ some g) ∧ Src w u l
structure Tells (w : World) (B : Nat) (v6 v7 : Value) (t6 t7 : Nat) (xs ys : List Value) (L : List Su.Thing) (ls : List (List Nat)) (key : List Nat) : Prop where
  o6 : w.ownsRow B 32 1 v6 t6 xs
  o7 : w.ownsRow B 32 1 v7 t7 ys
  ap : ∀ b, v6.ownBlock = some b → v7.ownBlock ≠ some b
  sx : ∀ k, k < t6 → ∃ u l n, xs[k]? = some u ∧ ls[k]? = some l ∧ SgAt w B v6 v7 u (Su.sign 72 n) ∧ Su.pos 72 [] l 0 L = some n
  sy : ∀ k, k < t7 → ∃ u l n, ys[k]? = some u ∧ ls[k]? = some l ∧ SgAt w B v6 v7 u (Su.sign 77 n) ∧ Su.pos 77 key l 0 L = some n
theorem Tells.start (w : World) (B : Nat) (L : List Su.Thing) (ls : List (List Nat)) (key : List Nat) : Tells w B (.slice none 0 0) (.slice none 0 0) 0 0 [] [] L ls key :=
  ⟨own_none _ _ _ _, own_none _ _ _ _, (fun b hb => by cases hb), (fun k hk => by omega), (fun k hk => by omega)⟩
theorem Tells.only {w w' : World} {B t6 t7 : Nat} {v6 v7 : Value} {xs ys : List Value} {L : List Su.Thing} {ls : List (List Nat)} {key : List Nat} {bs : List Nat} (h : Tells w B v6 v7 t6 t7 xs ys L ls key) (ho : Only bs w w') (hb : ∀ y ∈ bs, y < B) (M : List Su.Thing) : Tells w' B v6 v7 t6 t7 xs ys (L ++ M) ls key := by
  have keep : ∀ u l, SgAt w B v6 v7 u l → SgAt w' B v6 v7 u l := fun u l ⟨⟨g, c, e, h1, h2, h3, h4⟩, h5⟩ =>
    ⟨⟨g, c, e, h1, Nat.lt_of_lt_of_le h2 ho.size, h3, h4⟩, h5.only ho (fun b hb' hm => by rw [e] at hb'; cases hb'; have h9 : g < B := hb _ hm; omega)⟩
  refine ⟨own_only h.o6 ho (own_off h.o6 hb), own_only h.o7 ho (own_off h.o7 hb), h.ap, fun k hk => ?_, fun k hk => ?_⟩
  · obtain ⟨u, l, n, h1, h2, h3, h4⟩ := h.sx k hk
    exact ⟨u, l, n, h1, h2, keep _ _ h3, Su.pos_stays h4⟩
  · obtain ⟨u, l, n, h1, h2, h3, h4⟩ := h.sy k hk
    exact ⟨u, l, n, h1, h2, keep _ _ h3, Su.pos_stays h4⟩
theorem Tells.below {w w' : World} {B t6 t7 : Nat} {v6 v7 : Value} {xs ys : List Value} {L : List Su.Thing} {ls : List (List Nat)} {key : List Nat} (h : Tells w B v6 v7 t6 t7 xs ys L ls key) (hb : Below w.heap.size w w') : Tells w' B v6 v7 t6 t7 xs ys L ls key := by
  have := h.only (Only.of_below hb []) (fun y hy => by cases hy) []
  rwa [List.append_nil] at this
/-- A sign that was just told. -/
theorem sg_new {w w' : World} {B t6 t7 : Nat} {v6 v7 u : Value} {xs ys : List Value} {L : List Su.Thing} {ls : List (List Nat)} {key l : List Nat} (h : Tells w B v6 v7 t6 t7 xs ys L ls key) (hB : B ≤ w.heap.size) (ho : w'.ownsRow w.heap.size 5 1 u 32 (ints .u8 l)) (hs : ∀ x ∈ l, x < 256) : SgAt w' B v6 v7 u l := by
  obtain ⟨g, c, rfl, h1, h2, _, _⟩ := own_cell ho (by decide)
  refine ⟨⟨g, c, rfl, by omega, h2, fun e => ?_, fun e => ?_⟩, Src.own hs ho⟩
  · have := (h.o6.lt _ e).2; omega
  · have := (h.o7.lt _ e).2; omega
theorem Tells.push6 {w w' : World} {B t6 t7 : Nat} {v6 v7 v' u : Value} {xs ys : List Value} {L : List Su.Thing} {ls : List (List Nat)} {key l : List Nat} {n : Nat} (h : Tells w B v6 v7 t6 t7 xs ys L ls key) (hs : SgAt w B v6 v7 u (Su.sign 72 n)) (hl : ls[t6]? = some l) (hp : Su.pos 72 [] l 0 L = some n)
    (ho : w'.ownsRow B 32 1 v' (t6 + 1) (xs ++ [u])) (hg : w.grownBy w' v6.ownBlock) (hat : v'.ownBlock = v6.ownBlock ∨ v'.ownBlock = some w.heap.size) : Tells w' B v' v7 (t6 + 1) t7 (xs ++ [u]) ys L ls key := by
  have hO : Only v6.ownBlock.toList w w' := Only.of_grown hg (fun x hx => by rw [hx]; simp)
  have keep : ∀ u l, SgAt w B v6 v7 u l → SgAt w' B v' v7 u l := fun u l ⟨⟨g, c, e, h1, h2, h3, h4⟩, h5⟩ => by
    refine ⟨⟨g, c, e, h1, Nat.lt_of_lt_of_le h2 hO.size, fun e2 => ?_, h4⟩, h5.only hO (fun b hb hm => ?_)⟩
    · rcases hat with e3 | e3
      · rw [e3] at e2; exact h3 e2
      · rw [e3] at e2; cases e2; omega
    · simp only [Option.mem_toList] at hm
      rw [e] at hb
      cases hb
      exact h3 hm
  refine ⟨ho, own_only h.o7 hO (fun b hb hm => ?_), fun b hb hc => ?_, ?_, ?_⟩
  · simp only [Option.mem_toList] at hm
    exact h.ap b hm hb
  · rcases hat with e3 | e3
    · rw [e3] at hb; exact h.ap b hb hc
    · rw [e3] at hb; cases hb; have := (h.o7.lt _ hc).2; omega
  · intro k hk
    by_cases e : k = t6
    · subst e
      exact ⟨u, l, n, by rw [List.getElem?_append_right (by have := h.o6.1; omega)]; simp [show xs.length = k from by have := h.o6.1; omega], hl, keep _ _ hs, hp⟩
    · obtain ⟨u', l', n', h1, h2, h3, h4⟩ := h.sx k (by omega)
      exact ⟨u', l', n', by rw [List.getElem?_append_left (by have := h.o6.1; omega)]; exact h1, h2, keep _ _ h3, h4⟩
  · intro k hk
    obtain ⟨u', l', n', h1, h2, h3, h4⟩ := h.sy k hk
    exact ⟨u', l', n', h1, h2, keep _ _ h3, h4⟩
theorem Tells.push7 {w w' : World} {B t6 t7 : Nat} {v6 v7 v' u : Value} {xs ys : List Value} {L : List Su.Thing} {ls : List (List Nat)} {key l : List Nat} {n : Nat} (h : Tells w B v6 v7 t6 t7 xs ys L ls key) (hs : SgAt w B v6 v7 u (Su.sign 77 n)) (hl : ls[t7]? = some l) (hp : Su.pos 77 key l 0 L = some n)
    (ho : w'.ownsRow B 32 1 v' (t7 + 1) (ys ++ [u])) (hg : w.grownBy w' v7.ownBlock) (hat : v'.ownBlock = v7.ownBlock ∨ v'.ownBlock = some w.heap.size) : Tells w' B v6 v' t6 (t7 + 1) xs (ys ++ [u]) L ls key := by
  have hO : Only v7.ownBlock.toList w w' := Only.of_grown hg (fun x hx => by rw [hx]; simp)
  have keep : ∀ u l, SgAt w B v6 v7 u l → SgAt w' B v6 v' u l := fun u l ⟨⟨g, c, e, h1, h2, h3, h4⟩, h5⟩ => by
    refine ⟨⟨g, c, e, h1, Nat.lt_of_lt_of_le h2 hO.size, h3, fun e2 => ?_⟩, h5.only hO (fun b hb hm => ?_)⟩
    · rcases hat with e3 | e3
      · rw [e3] at e2; exact h4 e2
      · rw [e3] at e2; cases e2; omega
    · simp only [Option.mem_toList] at hm
      rw [e] at hb
      cases hb
      exact h4 hm
  refine ⟨own_only h.o6 hO (fun b hb hm => ?_), ho, fun b hb hc => ?_, ?_, ?_⟩
  · simp only [Option.mem_toList] at hm
    exact h.ap b hb hm
  · rcases hat with e3 | e3
    · rw [e3] at hc; exact h.ap b hb hc
    · rw [e3] at hc; cases hc; have := (h.o6.lt _ hb).2; omega
  · intro k hk
    obtain ⟨u', l', n', h1, h2, h3, h4⟩ := h.sx k hk
    exact ⟨u', l', n', h1, h2, keep _ _ h3, h4⟩
  · intro k hk
    by_cases e : k = t7
    · subst e
      exact ⟨u, l, n, by rw [List.getElem?_append_right (by have := h.o7.1; omega)]; simp [show ys.length = k from by have := h.o7.1; omega], hl, keep _ _ hs, hp⟩
    · obtain ⟨u', l', n', h1, h2, h3, h4⟩ := h.sy k (by omega)
      exact ⟨u', l', n', by rw [List.getElem?_append_left (by have := h.o7.1; omega)]; exact h1, h2, keep _ _ h3, h4⟩
theorem info32e : ∃ i, Tryd.prog.info? 32 = some i ∧ i.size = 1 ∧ i.bytes = 24 ∧ i.zero = some (.slice none 0 0) := info_of (by kernel_rfl)
theorem law_append_row {ops : Array Oper} {rest : List Oper} {dst : Option Tmp} {T : TypeId} {pos : String} {after : Array Edge} {a : Act} {w : World} {Q : Exit → Act → World → Prop} {so xo : Operand}
    (base : Nat) (v : Value) (n : Nat) (xs : List Value) (g : Nat) (u : Value) (hs : a.eval so = v) (hx : a.eval xo = .slice (some ⟨g, 0, none⟩) 1 1) (hown : w.ownsRow base 32 1 v n xs) (hc : w.cell? ⟨g, 0, none⟩ = some u) (hu : u.oneCell' = true)
    (hn : n ≤ 1000) (hbase : base ≤ w.heap.size)
    (h : ∀ v' w', w'.ownsRow base 32 1 v' (n + 1) (xs ++ [u]) → w.grownBy w' v.ownBlock → (v'.ownBlock = v.ownBlock ∨ v'.ownBlock = some w.heap.size) → wpList Tryd.prog ops Q rest (a.put dst v') w') :
    wpList Tryd.prog ops Q ({ dst := dst, op := .call { callee := .builtin .append, args := #[so, xo], argTypes := #[31, 31] }, type := T, pos := pos, after := after, guard := none } :: rest) a w := by
  obtain ⟨i, hi, hsz, hby, hz⟩ := info32e
  refine wpList_append_own_at _ rfl so xo 31 rfl base 32 i _ 1 24 Tryd.underlying31 hi hz hsz hby rfl (by decide) v n xs hs hown ⟨g, 0, none⟩ 1 1 [u] hx rfl (fun j y hy => ?_) (fun y hy => by rw [List.mem_singleton.1 hy]; exact hu) (by unfold maxLen; omega) (by omega) hbase (fun v' w' h1 h2 _ h3 => h v' w' h1 h2 h3)
  cases j with
  | zero => simp at hy; subst hy; rw [Addr.add_mid]; exact hc
  | succ j => simp at hy
end Go.Proofs.YtbblokikhocdfaaDoor.S7
