/- Bytes that are read, as the calls of this layer take them; append of them to a row of one's own. -/
import Derived.Test.YtfjdaafckiefdaaGreatDoorP4Own
import Derived.Test.YtfjdaafckiefdaaGreatDoorA5Spec
import Derived.Laws.AppendOwnNone
namespace Go.Proofs.YtfjdaafckiefdaaGreatDoor.A5
open Go.RowKit P4
/-- A slice that holds these bytes: nil, or empty anywhere, or a row. -/
def Src (w : World) (v : Value) (l : List Nat) : Prop :=
  (∀ x ∈ l, x < 256) ∧ ((v = .slice none 0 0 ∧ l = []) ∨ (∃ ad c, v = .slice (some ad) 0 c ∧ l = []) ∨ ∃ b o c, v = .slice (some ⟨b, o, none⟩) l.length c ∧ l.length ≤ c ∧ w.rangeAt b o (ints .u8 l))
section
variable {w w' : World} {v : Value} {l : List Nat}
theorem Src.text {p : Option Addr} {n c : Nat} (h : Src w (.slice p n c) l) : l.length = n ∧ n ≤ c ∧ TextIs w p l := by
  obtain ⟨hs, ⟨e, rfl⟩ | ⟨ad, c', e, rfl⟩ | ⟨b, o, c', e, hc, hr⟩⟩ := h
  · cases e; exact ⟨rfl, Nat.le_refl _, hs, fun h => absurd rfl h⟩
  · cases e; exact ⟨rfl, Nat.zero_le _, hs, fun h => absurd rfl h⟩
  · cases e; exact ⟨rfl, hc, hs, fun _ => ⟨b, o, rfl, hr⟩⟩
theorem Src.slice (h : Src w v l) : ∃ p c, v = .slice p l.length c := by
  obtain ⟨hs, ⟨rfl, rfl⟩ | ⟨ad, c', rfl, rfl⟩ | ⟨b, o, c', rfl, hc, hr⟩⟩ := h
  · exact ⟨_, _, rfl⟩
  · exact ⟨_, _, rfl⟩
  · exact ⟨_, _, rfl⟩
theorem Src.below (h : Src w v l) (hb : Below w.heap.size w w') : Src w' v l := by
  obtain ⟨hs, h1 | h1 | ⟨b, o, c', rfl, hc, hr⟩⟩ := h
  · exact ⟨hs, .inl h1⟩
  · exact ⟨hs, .inr (.inl h1)⟩
  · exact ⟨hs, .inr (.inr ⟨b, o, c', rfl, hc, rangeAt_below hb hr⟩)⟩
theorem Src.nil (w : World) : Src w (.slice none 0 0) [] := ⟨fun x hx => by simp at hx, .inl ⟨rfl, rfl⟩⟩
theorem Src.row {b o c : Nat} (hs : ∀ x ∈ l, x < 256) (hc : l.length ≤ c) (hr : w.rangeAt b o (ints .u8 l)) {n : Nat} (hn : l.length = n) : Src w (.slice (some ⟨b, o, none⟩) n c) l := by
  subst hn
  exact ⟨hs, .inr (.inr ⟨b, o, c, rfl, hc, hr⟩)⟩
theorem Src.own {base n : Nat} (hs : ∀ x ∈ l, x < 256) (h : w.ownsRow base 5 1 v n (ints .u8 l)) : Src w v l := by
  by_cases h0 : n = 0
  · subst h0
    have hl : l = [] := by
      have := h.1
      rw [ints_length] at this
      exact List.eq_nil_of_length_eq_zero (by omega)
    subst hl
    rcases h.2 with ⟨rfl, _⟩ | ⟨g, cap, cur, rfl, _⟩
    · exact ⟨hs, .inl ⟨rfl, rfl⟩⟩
    · exact ⟨hs, .inr (.inl ⟨_, _, rfl, rfl⟩)⟩
  · have hl : l.length = n := by
      have := h.1
      rw [ints_length] at this
      omega
    obtain ⟨g, c, rfl, _, _, hc, hr⟩ := own_cell h (by omega)
    exact Src.row hs (by omega) hr hl
/-- What came in. -/
theorem Src.of {a : Option Addr} {len cap : Nat} (h : RowIs w a len cap) : ∃ l, l.length = len ∧ Src w (.slice a len cap) l := by
  rcases h with ⟨rfl, rfl⟩ | ⟨b, o, l, rfl, hl, hc, hm, hs, hr, hb⟩
  · refine ⟨[], rfl, fun x hx => by simp at hx, ?_⟩
    cases a with
    | none => exact .inl ⟨rfl, rfl⟩
    | some x => exact .inr (.inl ⟨_, _, rfl, rfl⟩)
  · exact ⟨l, hl, Src.row hs (by omega) hr hl⟩
/-- The beginning, and the end, of a row. -/
theorem range_drop {b o : Nat} (h : w.rangeAt b o (ints .u8 l)) (n : Nat) : w.rangeAt b (o + n) (ints .u8 (l.drop n)) := fun j u hu => by
  rw [Nat.add_assoc]
  apply h
  rw [← hu]
  simp [ints]
end
theorem law_append_src {ops : Array Oper} {rest : List Oper} {dst : Option Tmp} {T : TypeId} {pos : String} {after : Array Edge} {a : Act} {w : World} {Q : Exit → Act → World → Prop} {st xt : Tmp}
    (base : Nat) (v : Value) (n : Nat) (l : List Nat) (sv : Value) (news : List Nat) (hs : a.eval (.tmp st) = v) (hx : a.eval (.tmp xt) = sv) (hown : w.ownsRow base 5 1 v n (ints .u8 l)) (hsv : Src w sv news)
    (hn : n + news.length ≤ 100000) (hbase : base ≤ w.heap.size)
    (h : ∀ v' w', w'.ownsRow base 5 1 v' (n + news.length) (ints .u8 (l ++ news)) → Below base w w' → wpList Tryz.prog ops Q rest (a.put dst v') w') :
    wpList Tryz.prog ops Q ({ dst := dst, op := .call { callee := .builtin .append, args := #[.tmp st, .tmp xt], argTypes := #[22, 22] }, type := T, pos := pos, after := after, guard := none } :: rest) a w := by
  obtain ⟨i, hi, hsz, hby, hz⟩ := info5e
  have key : ∀ ad c, sv = .slice (some ad) news.length c → (∀ j u, (ints .u8 news)[j]? = some u → w.cell? (ad.add j) = some u) → wpList Tryz.prog ops Q ({ dst := dst, op := .call { callee := .builtin .append, args := #[.tmp st, .tmp xt], argTypes := #[22, 22] }, type := T, pos := pos, after := after, guard := none } :: rest) a w := by
    intro ad c e hc
    subst e
    refine wpList_append_own _ rfl (.tmp st) (.tmp xt) 22 rfl base 5 i _ 1 1 Tryz.underlying22 hi hz hsz hby rfl (by decide) v n (ints .u8 l) hs hown ad news.length c (ints .u8 news) hx (by rw [ints_length]; omega) hc (fun u hu => by obtain ⟨q, _, rfl⟩ := List.mem_map.1 hu; rfl) (by unfold maxLen; omega) (by omega) hbase (fun v' w' h1 h2 _ => h v' w' (by rw [ints_append]; exact h1) (below_append hown h2 hbase))
  rcases hsv with ⟨hb, ⟨rfl, rfl⟩ | ⟨ad, c, rfl, rfl⟩ | ⟨b, o, c, rfl, hc, hr⟩⟩
  · refine wpList_append_own_none rfl (.tmp st) (.tmp xt) 22 rfl base 5 i 1 Tryz.underlying22 hi v n (ints .u8 l) hs hown hx (h v w ?_ (Below.refl _ _))
    simpa [ints] using hown
  · exact key ad c rfl (fun j u hu => by simp [ints] at hu)
  · exact key ⟨b, o, none⟩ c rfl (fun j u hu => by rw [Addr.add_mid]; exact hr j u hu)
end Go.Proofs.YtfjdaafckiefdaaGreatDoor.A5
