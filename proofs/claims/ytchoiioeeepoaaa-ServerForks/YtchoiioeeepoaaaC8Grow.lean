/- What an append may turn: the row that it goes on with, and nothing else that is old. -/
import Derived.Test.YtchoiioeeepoaaaC8Base
import Derived.Maps.AppendAt
namespace Go.Proofs.Ytchoiioeeepoaaa.C8
open Go.RowKit
/-- From the row v to the row v': of what is old only v's block may have turned; v' lies there, or is new. -/
def Grow (v v' : Value) (w w' : World) : Prop := w.grownBy w' v.ownBlock ∧ (v'.ownBlock = v.ownBlock ∨ ∃ b, v'.ownBlock = some b ∧ w.heap.size ≤ b)
section
variable {v v' v'' : Value} {w w' w'' : World}
theorem Grow.refl (v : Value) (w : World) : Grow v v w w := ⟨grownBy_refl _ _, .inl rfl⟩
theorem Grow.size (h : Grow v v' w w') : w.heap.size ≤ w'.heap.size := h.1.size
theorem Grow.trans (h : Grow v v' w w') (k : Grow v' v'' w' w'') : Grow v v'' w w'' := by
  refine ⟨⟨k.1.os.trans h.1.os, k.1.tape.trans h.1.tape, k.1.output.trans h.1.output, Nat.le_trans h.1.size k.1.size, fun i hi hn => ?_⟩, ?_⟩
  · refine (k.1.block i (Nat.lt_of_lt_of_le hi h.1.size) ?_).trans (h.1.block i hi hn)
    rcases h.2 with e | ⟨b, e, hb⟩
    · rw [e]; exact hn
    · rw [e]
      intro c
      cases c
      omega
  · rcases k.2 with e | ⟨b, e, hb⟩
    · rw [e]; exact h.2
    · exact .inr ⟨b, e, Nat.le_trans h.1.size hb⟩
theorem Grow.alloc (h : Grow v v' w w') (o : Obj) : Grow v v' w (w'.alloc o) :=
  h.trans ⟨grownBy_alloc _ _ _, .inl rfl⟩
theorem Grow.below {base e size n : Nat} {xs : List Value} (h : Grow v v' w w') (hown : w.ownsRow base e size v n xs) (hbase : base ≤ w.heap.size) : Below base w w' := below_append hown h.1 hbase
theorem Src.empty {sv : Value} (h : Src w sv []) (w' : World) : Src w' sv [] := by
  obtain ⟨hs, h1 | h1 | ⟨b, o, c, rfl, hc, _⟩⟩ := h
  · exact ⟨hs, .inl h1⟩
  · exact ⟨hs, .inr (.inl h1)⟩
  · exact ⟨hs, .inr (.inl ⟨_, _, rfl, rfl⟩)⟩
theorem Grow.src {sv : Value} {l : List Nat} (h : Grow v v' w w') (hs : Src w sv l) (ho : l ≠ [] → ∀ b, sv.ownBlock = some b → v.ownBlock ≠ some b) : Src w' sv l := by
  by_cases h0 : l = []
  · subst h0
    exact hs.empty w'
  · refine hs.only (bs := v.ownBlock.toList) (Only.of_grown h.1 (fun x hx => by rw [hx]; simp)) (fun b hb hm => ?_)
    simp only [Option.mem_toList] at hm
    exact ho h0 b hb hm
end
/-- Bytes that lie below a place. -/
def Old (B : Nat) (w : World) (v : Value) (l : List Nat) : Prop := Src w v l ∧ (l ≠ [] → ∀ b, v.ownBlock = some b → b < B)
section
variable {w w' : World} {B : Nat} {v : Value} {l : List Nat}
theorem ints_ne {k : IntKind} (h : l ≠ []) : ints k l ≠ [] := by
  intro e
  apply h
  have := congrArg List.length e
  rw [ints_length] at this
  exact List.eq_nil_of_length_eq_zero this
theorem Old.of (h : Src w v l) : Old w.heap.size w v l := by
  refine ⟨h, fun h0 b hb => ?_⟩
  obtain ⟨_, ⟨rfl, rfl⟩ | ⟨_, _, rfl, rfl⟩ | ⟨g, o, c, rfl, _, hr⟩⟩ := h
  · exact absurd rfl h0
  · exact absurd rfl h0
  · cases hb
    exact range_lt hr (ints_ne h0)
theorem Old.keep (h : Old B w v l) (hb : Below B w w') : Old B w' v l := by
  refine ⟨?_, h.2⟩
  obtain ⟨⟨hs, h1 | h1 | ⟨g, o, c, rfl, hc, hr⟩⟩, h2⟩ := h
  · exact ⟨hs, .inl h1⟩
  · exact ⟨hs, .inr (.inl h1)⟩
  · by_cases h0 : l = []
    · subst h0
      exact ⟨hs, .inr (.inl ⟨_, _, rfl, rfl⟩)⟩
    · exact ⟨hs, .inr (.inr ⟨g, o, c, rfl, hc, range_kept hr (hb.block g (h2 h0 g rfl))⟩)⟩
theorem Old.up {B' : Nat} (h : Old B w v l) (hB : B ≤ B') : Old B' w v l := ⟨h.1, fun h0 b hb => Nat.lt_of_lt_of_le (h.2 h0 b hb) hB⟩
theorem Old.only {bs : List Nat} (h : Old B w v l) (ho : Only bs w w') (hB : B ≤ w.heap.size) (hs : ∀ y ∈ bs, B ≤ y) : Old B w' v l := h.keep (ho.below hB hs)
end
theorem Old.below {w w' : World} {B : Nat} {v : Value} {l : List Nat} (h : Old B w v l) (hb : Below w.heap.size w w') : Old B w' v l := ⟨h.1.below hb, h.2⟩
/-- A row of one's own is none of the blocks below. -/
theorem own_apart {base e size n : Nat} {w : World} {v sv : Value} {xs : List Value} {l : List Nat} (h : w.ownsRow base e size v n xs) (hs : l ≠ [] → ∀ b, sv.ownBlock = some b → b < base) : l ≠ [] → ∀ b, sv.ownBlock = some b → v.ownBlock ≠ some b := fun h0 b hb hv => by
  have h1 := (h.lt b hv).1
  have h2 := hs h0 b hb
  omega
theorem law_append_grow {ops : Array Oper} {rest : List Oper} {dst : Option Tmp} {T : TypeId} {pos : String} {after : Array Edge} {a : Act} {w : World} {Q : Exit → Act → World → Prop} {so xo : Operand}
    (base : Nat) (v : Value) (n : Nat) (l : List Nat) (sv : Value) (news : List Nat) (hs : a.eval so = v) (hx : a.eval xo = sv) (hown : w.ownsRow base 5 1 v n (ints .u8 l)) (hsv : Src w sv news)
    (hn : n + news.length ≤ 1000000) (hbase : base ≤ w.heap.size)
    (h : ∀ v' w', w'.ownsRow base 5 1 v' (n + news.length) (ints .u8 (l ++ news)) → Grow v v' w w' → wpList Try.prog ops Q rest (a.put dst v') w') :
    wpList Try.prog ops Q ({ dst := dst, op := .call { callee := .builtin .append, args := #[so, xo], argTypes := #[32, 32] }, type := T, pos := pos, after := after, guard := none } :: rest) a w := by
  obtain ⟨i, hi, hsz, hby, hz⟩ := info5e
  have key : ∀ ad c, sv = .slice (some ad) news.length c → (∀ j u, (ints .u8 news)[j]? = some u → w.cell? (ad.add j) = some u) → wpList Try.prog ops Q ({ dst := dst, op := .call { callee := .builtin .append, args := #[so, xo], argTypes := #[32, 32] }, type := T, pos := pos, after := after, guard := none } :: rest) a w := by
    intro ad c e hc
    subst e
    refine wpList_append_own_at _ rfl so xo 32 rfl base 5 i _ 1 1 Try.underlying32 hi hz hsz hby rfl (by decide) v n (ints .u8 l) hs hown ad news.length c (ints .u8 news) hx (by rw [ints_length]; omega) hc (fun u hu => by obtain ⟨q, _, rfl⟩ := List.mem_map.1 hu; rfl) (by unfold maxLen; omega) (by omega) hbase (fun v' w' h1 h2 _ h3 => h v' w' (by rw [ints_append]; exact h1) ⟨h2, h3.elim .inl (fun e => .inr ⟨_, e, Nat.le_refl _⟩)⟩)
  rcases hsv with ⟨hb, ⟨rfl, rfl⟩ | ⟨ad, c, rfl, rfl⟩ | ⟨b, o, c, rfl, hc, hr⟩⟩
  · refine wpList_append_own_none rfl so xo 32 rfl base 5 i 1 Try.underlying32 hi v n (ints .u8 l) hs hown hx (h v w ?_ (Grow.refl _ _))
    simpa [ints] using hown
  · exact key ad c rfl (fun j u hu => by simp [ints] at hu)
  · exact key ⟨b, o, none⟩ c rfl (fun j u hu => by rw [Addr.add_mid]; exact hr j u hu)
end Go.Proofs.Ytchoiioeeepoaaa.C8
