/- append to a row of one's own: bytes and numbers. -/
import Derived.Test.YtnceiccciaihoaaP4Least
import Derived.Laws.AppendOwn
namespace Go.Proofs.Ytnceiccciaihoaa.P4
open Go.RowKit
theorem own_slice {w : World} {base e size : Nat} {v : Value} {n : Nat} {xs : List Value} (h : w.ownsRow base e size v n xs) : ∃ q c, v = .slice q n c := by
  obtain ⟨_, ⟨rfl, rfl⟩ | ⟨g, cap, cur, rfl, _⟩⟩ := h
  · exact ⟨none, 0, rfl⟩
  · exact ⟨_, cap, rfl⟩
theorem own_none (w : World) (base e size : Nat) : w.ownsRow base e size (.slice none 0 0) 0 [] := ⟨by simp, .inl ⟨rfl, rfl⟩⟩
theorem own_below {w w' : World} {base e size : Nat} {v : Value} {n : Nat} {xs : List Value} (h : w.ownsRow base e size v n xs) (hb : Below w.heap.size w w') : w'.ownsRow base e size v n xs :=
  h.kept (row := none) ⟨hb.os, hb.tape, hb.output, hb.size, fun k hk _ => hb.block k hk⟩ (by cases hv : v.ownBlock <;> simp)
theorem own_cell {w : World} {base : Nat} {v : Value} {k : IntKind} {e n : Nat} {l : List Nat} (h : w.ownsRow base e 1 v n (ints k l)) (hn : 0 < n) : ∃ g c, v = .slice (some ⟨g, 0, none⟩) n c ∧ base ≤ g ∧ g < w.heap.size ∧ n ≤ c ∧ w.rangeAt g 0 (ints k l) := by
  obtain ⟨hl, ⟨rfl, h0⟩ | ⟨g, cap, cur, rfl, hg, hh, hn, hm, hc, ht⟩⟩ := h
  · omega
  · refine ⟨g, cap, rfl, hg, (Array.getElem?_eq_some_iff.1 hh).1, hn, fun j u hu => ?_⟩
    rw [cell_of_row _ _ _ _ _ _ hh, Nat.zero_add]
    have hj := (List.getElem?_eq_some_iff.1 hu).1
    rw [← ht, Nat.mul_one, List.getElem?_take_of_lt (by rw [hl] at hj; omega)] at hu
    simpa using hu
theorem below_grown' {B base : Nat} {a w w' : World} {v : Value} {e size n : Nat} {xs : List Value} (h : Below B a w) (hg : w.grownBy w' v.ownBlock) (hown : w.ownsRow base e size v n xs) (hB : B ≤ w.heap.size) (hb : B ≤ base) : Below B a w' :=
  h.grown hg hB (fun k hk => Nat.le_trans hb (hown.lt k hk).1)
theorem info5e : ∃ i, Try.prog.info? 5 = some i ∧ i.size = 1 ∧ i.bytes = 1 ∧ i.zero = some (.int .u8 0) := info_of (by kernel_rfl)
theorem law_append_bytes {ops : Array Oper} {rest : List Oper} {dst : Option Tmp} {T : TypeId} {pos : String} {after : Array Edge} {a : Act} {w : World} {Q : Exit → Act → World → Prop} {st xt : Tmp}
    (base : Nat) (v : Value) (n : Nat) (l : List Nat) (g c : Nat) (m : Nat) (news : List Nat) (hs : a.eval (.tmp st) = v) (hx : a.eval (.tmp xt) = .slice (some ⟨g, 0, none⟩) m c) (hm : news.length = m) (hown : w.ownsRow base 5 1 v n (ints .u8 l)) (hr : w.rangeAt g 0 (ints .u8 news))
    (hn : n + m ≤ 100000) (hbase : base ≤ w.heap.size)
    (h : ∀ v' w', w'.ownsRow base 5 1 v' (n + m) (ints .u8 (l ++ news)) → w.grownBy w' v.ownBlock → wpList Try.prog ops Q rest (a.put dst v') w') :
    wpList Try.prog ops Q ({ dst := dst, op := .call { callee := .builtin .append, args := #[.tmp st, .tmp xt], argTypes := #[22, 22] }, type := T, pos := pos, after := after, guard := none } :: rest) a w := by
  obtain ⟨i, hi, hsz, hby, hz⟩ := info5e
  refine wpList_append_own _ rfl (.tmp st) (.tmp xt) 22 rfl base 5 i _ 1 1 Try.underlying22 hi hz hsz hby rfl (by decide) v n (ints .u8 l) hs hown ⟨g, 0, none⟩ m c (ints .u8 news) hx (by rw [ints_length]; omega) (fun j u hu => by rw [Addr.add_mid]; exact hr j u hu) (fun u hu => by obtain ⟨q, _, rfl⟩ := List.mem_map.1 hu; rfl) (by unfold maxLen; omega) (by omega) hbase (fun v' w' h1 h2 _ => h v' w' (by rw [ints_append]; exact h1) h2)
theorem info3e : ∃ i, Try.prog.info? 3 = some i ∧ i.size = 1 ∧ i.bytes = 8 ∧ i.zero = some (.int .i64 0) := info_of (by kernel_rfl)
theorem law_append_ints {ops : Array Oper} {rest : List Oper} {dst : Option Tmp} {T : TypeId} {pos : String} {after : Array Edge} {a : Act} {w : World} {Q : Exit → Act → World → Prop} {st xt : Tmp}
    (base : Nat) (v : Value) (n : Nat) (l : List Nat) (g c : Nat) (m : Nat) (news : List Nat) (hs : a.eval (.tmp st) = v) (hx : a.eval (.tmp xt) = .slice (some ⟨g, 0, none⟩) m c) (hm : news.length = m) (hown : w.ownsRow base 3 1 v n (ints .i64 l)) (hr : w.rangeAt g 0 (ints .i64 news))
    (hn : n + m ≤ 100000) (hbase : base ≤ w.heap.size)
    (h : ∀ v' w', w'.ownsRow base 3 1 v' (n + m) (ints .i64 (l ++ news)) → w.grownBy w' v.ownBlock → wpList Try.prog ops Q rest (a.put dst v') w') :
    wpList Try.prog ops Q ({ dst := dst, op := .call { callee := .builtin .append, args := #[.tmp st, .tmp xt], argTypes := #[68, 68] }, type := T, pos := pos, after := after, guard := none } :: rest) a w := by
  obtain ⟨i, hi, hsz, hby, hz⟩ := info3e
  refine wpList_append_own _ rfl (.tmp st) (.tmp xt) 68 rfl base 3 i _ 1 8 Try.underlying68 hi hz hsz hby rfl (by decide) v n (ints .i64 l) hs hown ⟨g, 0, none⟩ m c (ints .i64 news) hx (by rw [ints_length]; omega) (fun j u hu => by rw [Addr.add_mid]; exact hr j u hu) (fun u hu => by obtain ⟨q, _, rfl⟩ := List.mem_map.1 hu; rfl) (by unfold maxLen; omega) (by omega) hbase (fun v' w' h1 h2 _ => h v' w' (by rw [ints_append]; exact h1) h2)
end Go.Proofs.Ytnceiccciaihoaa.P4
