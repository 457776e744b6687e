/- append to a row of one's own, or to a slice without room that came in: it stays, or a new row is made. -/
import Derived.Test.YtnceiccciaihoaaA5Keys
namespace Go.Proofs.Ytnceiccciaihoaa.A5
open Go.RowKit P4
/-- A slice without room. -/
def Full (w : World) (v : Value) (l : List Nat) : Prop := Src w v l ∧ ∃ p, v = .slice p l.length l.length
def Mine (base : Nat) (w : World) (v : Value) (l : List Nat) : Prop := w.ownsRow base 5 1 v l.length (ints .u8 l) ∨ Full w v l
theorem Mine.src {base : Nat} {w : World} {v : Value} {l : List Nat} (h : Mine base w v l) (hs : ∀ x ∈ l, x < 256) : Src w v l := by
  rcases h with h | h
  · exact Src.own hs h
  · exact h.1
theorem Mine.below {base : Nat} {w w' : World} {v : Value} {l : List Nat} (h : Mine base w v l) (hb : Below w.heap.size w w') : Mine base w' v l := by
  rcases h with h | ⟨h, hp⟩
  · exact .inl (own_below h hb)
  · exact .inr ⟨h.below hb, hp⟩
theorem run_grow {w : World} {base : Nat} {ad : Addr} {l news : List Nat} {ty : TypeId} {a : Addr} {c : Nat} (hbase : base ≤ w.heap.size) (ho : ∀ j u, (ints .u8 l)[j]? = some u → w.cell? (ad.add j) = some u) (hx : ∀ j u, (ints .u8 news)[j]? = some u → w.cell? (a.add j) = some u) (hn : l.length + news.length ≤ 100000) (h0 : 0 < news.length) :
    ∃ v' w', (Builtin.append_ #[22, 22] ty #[.slice (some ad) l.length l.length, .slice (some a) news.length c]).run Try.prog w = .ok v' w' ∧ w'.ownsRow base 5 1 v' (l ++ news).length (ints .u8 (l ++ news)) ∧ Below base w w' := by
  obtain ⟨i, hi, hsz, hby, hz⟩ := info5e
  have hr := run_append_grow (P := Try.prog) w 22 ty 5 i _ Try.underlying22 hi hz ad l.length l.length (ints .u8 l) (by rw [hsz, ints_length]; omega) ho a news.length c (ints .u8 news) (by rw [hsz, ints_length]; omega) hx (by omega) (by omega) (growslice_fits (by omega) (by rw [hby]; omega))
  refine ⟨_, _, hr, ?_, ?_⟩
  · have hge := grownCap_ge w (l.length + news.length) l.length 5
    have hcm : grownCap w (l.length + news.length) l.length 5 ≤ maxLen := grownCap_le_maxLen w _ _ 5 (by unfold maxLen; omega)
    rw [List.length_append]
    refine ⟨by rw [ints_length, List.length_append]; omega, .inr ⟨w.heap.size, _, _, rfl, hbase, heap_alloc_new w.drew _, hge, hcm, ?_, ?_⟩⟩
    · simp only [Array.size_append, List.size_toArray, size_zeroCells, ints_length, Value.cells, List.length_cons, List.length_nil]
      omega
    · simp only [Array.toList_append, List.append_assoc]
      rw [← List.append_assoc, ← ints_append, show (l.length + news.length) * 1 = (ints .u8 (l ++ news)).length from by rw [ints_length, List.length_append]; omega]
      exact List.take_left
  · exact ⟨rfl, rfl, rfl, by simp, fun k hk => Below.heap_alloc w.drew _ k (Nat.lt_of_lt_of_le hk hbase)⟩
theorem wpList_append_run {ops : Array Oper} {rest : List Oper} {o : Oper} {a : Act} {w : World} {Q : Exit → Act → World → Prop} (hgd : o.guard = none) (s x : Operand) (ts : Array TypeId) (ho : o.op = .call { callee := .builtin .append, args := #[s, x], argTypes := ts })
    (vs vx v' : Value) (w' : World) (hs : a.eval s = vs) (hx : a.eval x = vx) (hrun : (Builtin.append_ ts o.type #[vs, vx]).run Try.prog w = .ok v' w') (h : wpList Try.prog ops Q rest (a.put o.dst v') w') : wpList Try.prog ops Q (o :: rest) a w := by
  refine wpList_plain hgd fun K hK => ?_
  unfold Oper.wp
  simp [execOp, ho, resolve, invoke, builtin, hs, hx, hrun, Result.andThen]
  exact hK _ _ h
theorem run_keep {w : World} {p : Option Addr} {n c : Nat} {ty : TypeId} {sv : Value} (h : sv = .slice none 0 0 ∨ ∃ ad d, sv = .slice (some ad) 0 d) (hp : p = none → n = 0 ∧ c = 0) (hc : n ≤ c) : (Builtin.append_ #[22, 22] ty #[.slice p n c, sv]).run Try.prog w = .ok (.slice p n c) w := by
  obtain ⟨i, hi, hsz, hby, hz⟩ := info5e
  cases p with
  | none =>
    obtain ⟨rfl, rfl⟩ := hp rfl
    rcases h with rfl | ⟨ad, d, rfl⟩ <;> simp [Builtin.append_, run_underlying Try.underlying22, sizeOf, typeInfo, hi, Builtin.lenOf, Builtin.firstCells, loadCells, loadCellsFrom]
  | some q =>
    rcases h with rfl | ⟨ad, d, rfl⟩ <;> simp [Builtin.append_, run_underlying Try.underlying22, sizeOf, typeInfo, hi, Builtin.lenOf, Builtin.firstCells, loadCells, loadCellsFrom, hc, storeCells]
theorem run_mine {w : World} {base : Nat} {v sv : Value} {l news : List Nat} (ty : TypeId) (hm : Mine base w v l) (hs : Src w sv news) (hn : l.length + news.length ≤ 100000) (hbase : base ≤ w.heap.size) :
    ∃ v' w', (Builtin.append_ #[22, 22] ty #[v, sv]).run Try.prog w = .ok v' w' ∧ Mine base w' v' (l ++ news) ∧ Below base w w' := by
  obtain ⟨i, hi, hsz, hby, hz⟩ := info5e
  rcases hm with hown | ⟨hsrc, p, rfl⟩
  · have key : ∀ ad c, sv = .slice (some ad) news.length c → (∀ j u, (ints .u8 news)[j]? = some u → w.cell? (ad.add j) = some u) → ∃ v' w', (Builtin.append_ #[22, 22] ty #[v, sv]).run Try.prog w = .ok v' w' ∧ Mine base w' v' (l ++ news) ∧ Below base w w' := by
      intro ad c e hc
      subst e
      obtain ⟨v', w', hr, ho, hg, _⟩ := run_append_own (P := Try.prog) (w := w) base 22 ty 5 i _ 1 1 Try.underlying22 hi hz hsz hby rfl (by decide) v l.length (ints .u8 l) hown ad news.length c (ints .u8 news) (by rw [ints_length]; omega) hc (fun u hu => by obtain ⟨q, _, rfl⟩ := List.mem_map.1 hu; rfl) (by unfold maxLen; omega) (by omega) hbase
      exact ⟨v', w', hr, .inl (by rw [ints_append, List.length_append]; exact ho), below_append hown hg hbase⟩
    rcases hs with ⟨hb, ⟨rfl, rfl⟩ | ⟨ad, c, rfl, rfl⟩ | ⟨b, o, c, rfl, hc, hr⟩⟩
    · refine ⟨v, w, run_append_owned_none (P := Try.prog) (w := w) base 22 ty 5 i 1 Try.underlying22 hi v l.length _ hown, .inl ?_, Below.refl _ _⟩
      rw [List.append_nil]
      exact hown
    · exact key ad c rfl (fun j u hu => by simp [ints] at hu)
    · exact key ⟨b, o, none⟩ c rfl (fun j u hu => by rw [Addr.add_mid]; exact hr j u hu)
  · have hp : p = none → l.length = 0 ∧ l.length = 0 := fun e => by
      subst e
      rcases hsrc with ⟨_, ⟨e, rfl⟩ | ⟨ad, c, e, _⟩ | ⟨b, o, c, e, _⟩⟩
      · exact ⟨rfl, rfl⟩
      · cases e
      · cases e
    by_cases h0 : news = []
    · subst h0
      refine ⟨_, w, run_keep (ty := ty) ?_ hp (Nat.le_refl _), .inr ?_, Below.refl _ _⟩
      · rcases hs with ⟨hb, ⟨rfl, _⟩ | ⟨ad, c, rfl, _⟩ | ⟨b, o, c, rfl, hc, hr⟩⟩
        · exact .inl rfl
        · exact .inr ⟨_, _, rfl⟩
        · exact .inr ⟨_, _, rfl⟩
      · rw [List.append_nil]
        exact ⟨hsrc, _, rfl⟩
    · have hnp : 0 < news.length := List.length_pos_iff.2 h0
      obtain ⟨b, o, c, rfl, hr⟩ : ∃ b o c, sv = .slice (some ⟨b, o, none⟩) news.length c ∧ w.rangeAt b o (ints .u8 news) := by
        rcases hs with ⟨hb, ⟨rfl, h⟩ | ⟨ad, c, rfl, h⟩ | ⟨b, o, c, rfl, hc, hr⟩⟩
        · exact absurd h h0
        · exact absurd h h0
        · exact ⟨b, o, c, rfl, hr⟩
      cases p with
      | none =>
        obtain ⟨h, _⟩ := hp rfl
        obtain rfl := List.eq_nil_of_length_eq_zero h
        obtain ⟨v', w', hr', ho, hg, _⟩ := run_append_own (P := Try.prog) (w := w) base 22 ty 5 i _ 1 1 Try.underlying22 hi hz hsz hby rfl (by decide) (.slice none 0 0) 0 [] (own_none _ _ _ _) ⟨b, o, none⟩ news.length c (ints .u8 news) (by rw [ints_length]; omega) (fun j u hu => by rw [Addr.add_mid]; exact hr j u hu) (fun u hu => by obtain ⟨q, _, rfl⟩ := List.mem_map.1 hu; rfl) (by unfold maxLen; omega) (by omega) hbase
        exact ⟨v', w', hr', .inl (by rw [List.nil_append]; rw [Nat.zero_add, List.nil_append] at ho; exact ho), below_append (own_none w base 5 1) hg hbase⟩
      | some ad =>
        have ho : ∀ j u, (ints .u8 l)[j]? = some u → w.cell? (ad.add j) = some u := by
          intro j u hu
          rcases hsrc with ⟨_, ⟨e, rfl⟩ | ⟨ad', c', e, rfl⟩ | ⟨b', o', c', e, _, hr'⟩⟩
          · simp [ints] at hu
          · simp [ints] at hu
          · cases e
            rw [Addr.add_mid]
            exact hr' j u hu
        obtain ⟨v', w', h1, h2, h3⟩ := run_grow (ty := ty) (c := c) (a := ⟨b, o, none⟩) hbase ho (fun j u hu => by rw [Addr.add_mid]; exact hr j u hu) hn hnp
        exact ⟨v', w', h1, .inl h2, h3⟩
theorem law_append_mine {ops : Array Oper} {rest : List Oper} {dst : Option Tmp} {T : TypeId} {pos : String} {after : Array Edge} {a : Act} {w : World} {Q : Exit → Act → World → Prop} {st xt : Tmp}
    (base : Nat) (v : Value) (l : List Nat) (sv : Value) (news : List Nat) (hs : a.eval (.tmp st) = v) (hx : a.eval (.tmp xt) = sv) (hm : Mine base w v l) (hsv : Src w sv news)
    (hn : l.length + news.length ≤ 100000) (hbase : base ≤ w.heap.size)
    (h : ∀ v' w', Mine base w' v' (l ++ news) → Below base w w' → wpList Try.prog ops Q rest (a.put dst v') w') :
    wpList Try.prog ops Q ({ dst := dst, op := .call { callee := .builtin .append, args := #[.tmp st, .tmp xt], argTypes := #[22, 22] }, type := T, pos := pos, after := after, guard := none } :: rest) a w := by
  obtain ⟨v', w', hr, h1, h2⟩ := run_mine T hm hsv hn hbase
  exact wpList_append_run rfl (.tmp st) (.tmp xt) _ rfl v sv v' w' hs hx hr (h v' w' h1 h2)
theorem run_noughts {w : World} {base : Nat} {v : Value} {l : List Nat} (ty : TypeId) (k : Nat) (hm : Mine base w v l) (hn : l.length + k ≤ 100000) (hbase : base ≤ w.heap.size) :
    ∃ v' w', (Builtin.append_ #[22, 3] ty #[v, .int .i64 (k : Int)]).run Try.prog w = .ok v' w' ∧ Mine base w' v' (l ++ List.replicate k 0) ∧ Below base w w' := by
  obtain ⟨i, hi, hsz, hby, hz⟩ := info5e
  rcases hm with hown | ⟨hsrc, p, rfl⟩
  · obtain ⟨v', w', hr, ho, hg⟩ := run_append_noughts w base ty v l.length _ hown k hn hbase
    exact ⟨v', w', hr, .inl (by rw [ints_append, List.length_append, List.length_replicate]; exact ho), below_append hown hg hbase⟩
  · cases p with
    | none =>
      have h : l = [] := by
        rcases hsrc with ⟨_, ⟨e, rfl⟩ | ⟨ad, c, e, _⟩ | ⟨b, o, c, e, _⟩⟩
        · rfl
        · cases e
        · cases e
      subst h
      obtain ⟨v', w', hr, ho, hg⟩ := run_append_noughts w base ty (.slice none 0 0) 0 [] (own_none _ _ _ _) k (by simpa using hn) hbase
      exact ⟨v', w', hr, .inl (by rw [List.nil_append, List.length_replicate]; rw [Nat.zero_add, List.nil_append] at ho; exact ho), below_append (own_none w base 5 1) hg hbase⟩
    | some ad =>
      have ho : ∀ j u, (ints .u8 l)[j]? = some u → w.cell? (ad.add j) = some u := by
        intro j u hu
        rcases hsrc with ⟨_, ⟨e, rfl⟩ | ⟨ad', c', e, rfl⟩ | ⟨b', o', c', e, _, hr'⟩⟩
        · simp [ints] at hu
        · simp [ints] at hu
        · cases e
          rw [Addr.add_mid]
          exact hr' j u hu
      have hw0 : IntKind.i64.wrap 0 = 0 := IntWalk.i64_in _ (by omega)
      by_cases h0 : k = 0
      · subst h0
        refine ⟨.slice (some ad) l.length l.length, w, ?_, .inr ?_, Below.refl _ _⟩
        · simp [Builtin.append_, run_underlying Try.underlying22, run_underlying Try.underlying3, sizeOf, typeInfo, hi, hby, asInt, asIntOf, hw0, storeCells]
        · rw [List.replicate_zero, List.append_nil]
          exact ⟨hsrc, _, rfl⟩
      · have hwr : IntKind.i64.wrap ((k : Nat) : Int) = k := IntWalk.i64_in _ (by omega)
        have hneg : ¬ ((k : Nat) : Int) < 0 := by omega
        have hbig : ¬ (281474976710656 : Int) < ((k : Nat) : Int) := by omega
        have hfit : ¬ (281474976710656 < Builtin.nextslicecap (l.length + k) l.length) := by
          have := growslice_fits (need := l.length + k) (old := l.length) (bytes := 1) (by omega) (by omega)
          omega
        have h63 : ¬ (9223372036854775807 : Int) < ((l.length : Int) + (k : Int)) := by omega
        have hfo := run_firstCells_some (P := Try.prog) w.drew 1 l.length ad l.length l.length (ints .u8 l) (by rw [ints_length]; omega) (by simpa using ho)
        have hroom : ¬ l.length + k ≤ l.length := by omega
        have hge := grownCap_ge w (l.length + k) l.length 5
        have hcm : grownCap w (l.length + k) l.length 5 ≤ maxLen := grownCap_le_maxLen w _ _ 5 (by unfold maxLen; omega)
        refine ⟨.slice (some ⟨w.heap.size, 0, none⟩) (l.length + k) (grownCap w (l.length + k) l.length 5), w.drew.alloc (.cells ((ints .u8 l).toArray ++ (ints .u8 (List.replicate k 0)).toArray ++ Builtin.zeroCells #[Value.int .u8 0] (grownCap w (l.length + k) l.length 5 - (l.length + k))) 5), ?_, .inl ?_, ?_⟩
        · simp [Builtin.append_, run_underlying Try.underlying22, run_underlying Try.underlying3, sizeOf, typeInfo, zeroValue, hi, hsz, hby, hz, asInt, asIntOf, hwr, hneg, hbig, h0, hfit, h63, Question.forced, newRow, grownCap, hfo, Value.cells, zeroCells_u8]
          intro hh
          exact absurd hh hroom
        · rw [List.length_append, List.length_replicate]
          refine ⟨by rw [ints_length, List.length_append, List.length_replicate]; omega, .inr ⟨w.heap.size, _, _, rfl, hbase, heap_alloc_new w.drew _, hge, hcm, ?_, ?_⟩⟩
          · simp only [Array.size_append, List.size_toArray, size_zeroCells, ints_length, List.length_replicate, List.length_cons, List.length_nil]
            omega
          · simp only [Array.toList_append, List.append_assoc]
            rw [← List.append_assoc, ← ints_append, show (l.length + k) * 1 = (ints .u8 (l ++ List.replicate k 0)).length from by rw [ints_length, List.length_append, List.length_replicate]; omega]
            exact List.take_left
        · exact ⟨rfl, rfl, rfl, by simp, fun j hj => Below.heap_alloc w.drew _ j (Nat.lt_of_lt_of_le hj hbase)⟩
theorem law_noughts_mine {ops : Array Oper} {rest : List Oper} {dst : Option Tmp} {T : TypeId} {pos : String} {after : Array Edge} {a : Act} {w : World} {Q : Exit → Act → World → Prop} {st xt : Tmp}
    (base : Nat) (v : Value) (l : List Nat) (k : Nat) (hs : a.eval (.tmp st) = v) (hx : a.eval (.tmp xt) = .int .i64 (k : Int)) (hm : Mine base w v l)
    (hn : l.length + k ≤ 100000) (hbase : base ≤ w.heap.size)
    (h : ∀ v' w', Mine base w' v' (l ++ List.replicate k 0) → Below base w w' → wpList Try.prog ops Q rest (a.put dst v') w') :
    wpList Try.prog ops Q ({ dst := dst, op := .call { callee := .builtin .append, args := #[.tmp st, .tmp xt], argTypes := #[22, 3] }, type := T, pos := pos, after := after, guard := none } :: rest) a w := by
  obtain ⟨v', w', hr, h1, h2⟩ := run_noughts T k hm hn hbase
  exact wpList_append_run rfl (.tmp st) (.tmp xt) _ rfl v _ v' w' hs hx hr (h v' w' h1 h2)
end Go.Proofs.Ytnceiccciaihoaa.A5
