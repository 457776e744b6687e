/- Rows of one's own: made, set, kept; the contract of Clone. -/
import Derived.Test.YtedbfhbmpeogdaaC8Grow
import Derived.Lib.SmallJoins
import Derived.Laws.CopyOwn
namespace Go.Proofs.Ytedbfhbmpeogdaa.C8
open Go.RowKit
theorem own_built (w : World) : (w.alloc (.cells #[] 5)).ownsRow w.heap.size 5 1 (.slice (some ⟨w.heap.size, 0, none⟩) 0 0) 0 (ints .u8 []) :=
  ⟨rfl, .inr ⟨w.heap.size, 0, #[], rfl, Nat.le_refl _, heap_alloc_new w _, Nat.le_refl _, by unfold maxLen; omega, rfl, rfl⟩⟩
theorem Src.cases {w : World} {v : Value} {l : List Nat} (h : Src w v l) : (v = .slice none 0 0 ∧ l = []) ∨ ∃ ad c, v = .slice (some ad) l.length c := by
  obtain ⟨_, h1 | ⟨ad, c, rfl, rfl⟩ | ⟨b, o, c, rfl, _⟩⟩ := h
  · exact .inl h1
  · exact .inr ⟨_, _, rfl⟩
  · exact .inr ⟨_, _, rfl⟩
theorem law_make {ops : Array Oper} {rest : List Oper} {dst : Option Tmp} {T : TypeId} {pos : String} {after : Array Edge} {a : Act} {w : World} {Q : Exit → Act → World → Prop} {lo co : Operand}
    (base n c : Nat) (hl : a.eval lo = .int .i64 (n : Int)) (hc : a.eval co = .int .i64 (c : Int)) (hnc : n ≤ c) (hm : c ≤ 100000) (hbase : base ≤ w.heap.size)
    (h : ∀ w', w'.ownsRow base 5 1 (.slice (some ⟨w.heap.size, 0, none⟩) n c) n (ints .u8 (List.replicate n 0)) → w.grownBy w' none → wpList Try.prog ops Q rest (a.put dst (.slice (some ⟨w.heap.size, 0, none⟩) n c)) w') :
    wpList Try.prog ops Q ({ dst := dst, op := .makeSlice 22 lo co, type := T, pos := pos, after := after, guard := none } :: rest) a w := by
  obtain ⟨i, hi, hsz, hby, hz⟩ := info5e
  have hr := run_make (P := Try.prog) w 22 5 i _ Try.underlying22 hi hz .i64 .i64 (n : Int) (c : Int) (by omega) (by omega) (by rw [hby]; omega) (by omega)
  simp only [Int.toNat_natCast, hsz, Nat.mul_one] at hr
  have e : (Value.int IntKind.u8 0).cells = #[.int .u8 0] := rfl
  rw [e, made_zeros] at hr
  have hw := h (w.alloc (.cells (arr .u8 (List.replicate c 0)) 5)) ⟨by simp [ints], .inr ⟨w.heap.size, c, arr .u8 (List.replicate c 0), rfl, hbase, heap_alloc_new w _, hnc, by unfold maxLen; omega, by rw [arr_size, List.length_replicate, Nat.mul_one], by
    rw [arr_list, Nat.mul_one]
    simp [ints, Nat.min_eq_left hnc]⟩⟩ (grownBy_alloc w _ none)
  refine wpList_plain rfl fun K' hK' => ?_
  unfold Oper.wp
  simp [execOp, hl, hc, hr, Result.andThen]
  exact hK' _ _ hw
theorem stop_make {P : Program} {ops : Array Oper} {rest : List Oper} {dst : Option Tmp} {T : TypeId} {pos : String} {after : Array Edge} {a : Act} {w : World} {Q : Exit → Act → World → Prop} (ty : TypeId) {x y : Operand}
    (h : Stop (wpList P ops Q ({ dst := dst, op := .makeSlice ty x y, type := T, pos := pos, after := after, guard := none } :: rest) a w)) :
    wpList P ops Q ({ dst := dst, op := .makeSlice ty x y, type := T, pos := pos, after := after, guard := none } :: rest) a w := h
/-- A byte of a row of one's own is set. -/
theorem own_set {w : World} {base g n c i y : Nat} {l : List Nat} (h : w.ownsRow base 5 1 (.slice (some ⟨g, 0, none⟩) n c) n (ints .u8 l)) : (w.setCell ⟨g, i, none⟩ (.int .u8 (y : Nat))).ownsRow base 5 1 (.slice (some ⟨g, 0, none⟩) n c) n (ints .u8 (l.set i y)) := by
  obtain ⟨h1, ⟨e, _⟩ | ⟨g', cap, cur, e, hb, hh, hn, hm, hs, ht⟩⟩ := h
  · cases e
  · cases e
    have hset := heap_setCell_same w g i cur 5 (.int .u8 (y : Nat)) hh
    refine ⟨by simpa [ints] using h1, .inr ⟨g, c, cur.setIfInBounds i (.int .u8 (y : Nat)), rfl, hb, hset, hn, hm, by simpa using hs, ?_⟩⟩
    rw [Array.toList_setIfInBounds, List.take_set, ht]
    simp [ints]
theorem own_may {w : World} {base g n c : Nat} {xs : List Value} (h : w.ownsRow base 5 1 (.slice (some ⟨g, 0, none⟩) n c) n xs) (i : Nat) : w.frozen? ⟨g, i, none⟩ = false := by
  obtain ⟨_, ⟨e, _⟩ | ⟨g', cap, cur, e, _, hh, _⟩⟩ := h
  · cases e
  · cases e
    exact frozen_of_row _ _ _ _ _ hh
theorem own_at {w : World} {base g n c : Nat} {l : List Nat} (h : w.ownsRow base 5 1 (.slice (some ⟨g, 0, none⟩) n c) n (ints .u8 l)) (i : Nat) (hi : i < n) : w.cell? ⟨g, i, none⟩ = some (.int .u8 (Sp.nth l i : Nat)) := by
  have hl : l.length = n := by have := h.1; rw [ints_length] at this; omega
  obtain ⟨g', c', e, _, _, _, hr⟩ := own_cell h (by omega)
  cases e
  have := hr i _ (ints_get .u8 l i (by omega))
  rwa [Nat.zero_add] at this
theorem own_lt {w : World} {base g n c : Nat} {xs : List Value} (h : w.ownsRow base 5 1 (.slice (some ⟨g, 0, none⟩) n c) n xs) : g < w.heap.size := by
  obtain ⟨_, ⟨e, _⟩ | ⟨g', cap, cur, e, _, hh, _⟩⟩ := h
  · cases e
  · cases e
    exact (Array.getElem?_eq_some_iff.1 hh).1
theorem flip8 {a : Nat} (h : a < 256) : ∃ b : Nat, b < 256 ∧ bits .xor .u8 (a : Int) 255 = (b : Int) :=
  ⟨a ^^^ 255, Nat.xor_lt_two_pow (n := 8) h (by decide), u8_xor_nat a 255 h (by decide)⟩
/-- A row of one's own whose bytes are turned. -/
def OwnB (w : World) (base n : Nat) (v : Value) : Prop := ∃ L : List Nat, (∀ x ∈ L, x < 256) ∧ w.ownsRow base 5 1 v n (ints .u8 L)
theorem OwnB.set {w : World} {base g n c i y : Nat} (h : OwnB w base n (.slice (some ⟨g, 0, none⟩) n c)) (hy : y < 256) : OwnB (w.setCell ⟨g, i, none⟩ (.int .u8 (y : Nat))) base n (.slice (some ⟨g, 0, none⟩) n c) := by
  obtain ⟨L, hL, ho⟩ := h
  obtain ⟨h1, ⟨e, _⟩ | ⟨g', cap, cur, e, hb, hh, hn, hm, hs, ht⟩⟩ := ho
  · cases e
  · cases e
    have hset := heap_setCell_same w g i cur 5 (.int .u8 (y : Nat)) hh
    refine ⟨L.set i y, fun x hx => ?_, by simpa [ints] using h1, .inr ⟨g, c, cur.setIfInBounds i (.int .u8 (y : Nat)), rfl, hb, hset, hn, hm, by simpa using hs, ?_⟩⟩
    · rcases List.mem_or_eq_of_mem_set hx with h | h
      · exact hL x h
      · rw [h]; exact hy
    · rw [Array.toList_setIfInBounds, List.take_set, ht]
      simp [ints]
theorem OwnB.at {w : World} {base n : Nat} {v : Value} (h : OwnB w base n v) (i : Nat) (hi : i < n) : ∃ g c a, v = .slice (some ⟨g, 0, none⟩) n c ∧ g < w.heap.size ∧ a < 256 ∧ w.cell? ⟨g, i, none⟩ = some (.int .u8 (a : Nat)) ∧ w.frozen? ⟨g, i, none⟩ = false := by
  obtain ⟨L, hL, ho⟩ := h
  have hl : L.length = n := by have := ho.1; rw [ints_length] at this; omega
  obtain ⟨g, c, rfl, _, hg, _, hr⟩ := own_cell ho (by omega)
  have := hr i _ (ints_get .u8 L i (by omega))
  rw [Nat.zero_add] at this
  refine ⟨g, c, Sp.nth L i, rfl, hg, Sp.nth_lt (by decide) hL i, this, ?_⟩
  obtain ⟨_, ⟨e, _⟩ | ⟨g', cap, cur, e, _, hh, _⟩⟩ := ho
  · cases e
  · cases e
    exact frozen_of_row _ _ _ _ _ hh
theorem OwnB.slice {w : World} {base n : Nat} {v : Value} (h : OwnB w base n v) : ∃ q c, v = .slice q n c := by
  obtain ⟨L, _, ho⟩ := h
  exact own_slice ho
theorem OwnB.lt {w : World} {base n : Nat} {v : Value} (h : OwnB w base n v) : ∀ b, v.ownBlock = some b → base ≤ b ∧ b < w.heap.size := by
  obtain ⟨L, _, ho⟩ := h
  exact fun b hb => ho.lt b hb
theorem OwnB.kept {w w' : World} {base n : Nat} {v : Value} {row : Option Nat} (h : OwnB w base n v) (hg : w.grownBy w' row) (hr : ∀ b, v.ownBlock = some b → row ≠ some b) : OwnB w' base n v := by
  obtain ⟨L, hL, ho⟩ := h
  exact ⟨L, hL, own_only (bs := row.toList) ho (Only.of_grown hg (fun x hx => by rw [hx]; simp)) (fun b hb hm => by simp only [Option.mem_toList] at hm; exact hr b hb hm)⟩
theorem clone_any {l : List Nat} (v : Value) (w : World) (hv : Src w v l) (hl : l.length ≤ 50000) :
    Calls Try.prog 17 #[v] w fun e w' => ∃ u, e = .returned u ∧ w'.ownsRow w.heap.size 5 1 u l.length (ints .u8 l) ∧ Below w.heap.size w w' := by
  have HV : Hid (Src w v l) := hv
  have HL : Hid (l.length ≤ 50000) := hl
  have key : ∀ ad n c, v = .slice (some ad) n c → Calls Try.prog 17 #[v] w fun e w' => ∃ u, e = .returned u ∧ w'.ownsRow w.heap.size 5 1 u l.length (ints .u8 l) ∧ Below w.heap.size w w' := by
    intro ad n c e
    subst e
    clear hv hl
    have hnil : (binOp .eql 22 (.slice (some ad) n c) (.slice none 0 0)).run Try.prog w = .ok (.bool false) w := Lib.run_eql_slice_nil w 22 5 (some ad) n c 0 0 Try.underlying22
    go_enter Try.func17, Try.ntmps17
    go_wp2_with (first | with_reducible (refine stop_builtin .append ?_))
    refine Stop.go ?_
    have hb5 : Below w.heap.size w (w.alloc (.cells #[] 5)) := (Below.refl _ _).alloc (Nat.le_refl _) _
    have he : (w.alloc (.cells #[] 5)).ownsRow w.heap.size 5 1 (.slice (some ⟨w.heap.size, 0, none⟩) 0 0) 0 (ints .u8 []) :=
      ⟨rfl, .inr ⟨w.heap.size, 0, #[], rfl, Nat.le_refl _, heap_alloc_new w _, Nat.le_refl _, by unfold maxLen; decide, rfl, rfl⟩⟩
    refine law_append_src w.heap.size _ 0 [] _ l rfl rfl he (HV.out.below hb5) (by have := HL.out; omega) (by simp) ?_
    intro u w1 ho hg
    have HB : Hid (Below w.heap.size w w1) := hb5.trans (below_append he hg (by simp))
    have HO : Hid (w1.ownsRow w.heap.size 5 1 u (0 + l.length) (ints .u8 ([] ++ l))) := ho
    clear ho hg hb5 he
    go_wp2_with fail
    go_ret
    exact ⟨_, rfl, by have := HO.out; rw [Nat.zero_add] at this; exact this, HB.out⟩
  rcases hv.2 with ⟨rfl, rfl⟩ | ⟨ad, c, rfl, rfl⟩ | ⟨b, o, c, rfl, _⟩
  · clear key hv hl
    have hnil : (binOp .eql 22 (.slice none 0 0) (.slice none 0 0)).run Try.prog w = .ok (.bool true) w := Lib.run_eql_slice_nil w 22 5 none 0 0 0 0 Try.underlying22
    go_enter Try.func17, Try.ntmps17
    go_wp2_with fail
    go_ret
    exact ⟨_, rfl, own_none _ _ _ _, Below.refl _ _⟩
  · exact key _ _ _ rfl
  · exact key _ _ _ rfl
end Go.Proofs.Ytedbfhbmpeogdaa.C8
