/- append of a number of noughts to a row of one's own. -/
import Derived.Test.YtedbfhbmpeogdaaB13Base
import Derived.Laws.AppendOwn
namespace Go.Proofs.Ytedbfhbmpeogdaa.C8
open Go.RowKit
theorem zeroCells_u8 (m : Nat) : Builtin.zeroCells #[Value.int .u8 0] m = (ints .u8 (List.replicate m 0)).toArray := by
  apply Array.ext'
  apply List.ext_getElem
  · simp [Builtin.zeroCells, ints]
  · intro i h1 h2
    simp [Builtin.zeroCells, ints, Nat.mod_one]
theorem noughts_length (m : Nat) : (ints .u8 (List.replicate m 0)).length = m := by simp [ints]
theorem run_append_noughts (w : World) (base : Nat) (ty : TypeId) (v : Value) (n : Nat) (xs : List Value) (hown : w.ownsRow base 5 1 v n xs) (m : Nat) (hm : n + m ≤ 100000) (hbase : base ≤ w.heap.size) :
    ∃ v' w', (Builtin.append_ #[22, 3] ty #[v, .int .i64 (m : Nat)]).run Try.prog w = .ok v' w' ∧ w'.ownsRow base 5 1 v' (n + m) (xs ++ ints .u8 (List.replicate m 0)) ∧ w.grownBy w' v.ownBlock := by
  obtain ⟨i, hi, hsz, hby, hz⟩ := info5e
  have hwr : IntKind.i64.wrap ((m : Nat) : Int) = m := IntWalk.i64_in _ (by omega)
  have hw0 : IntKind.i64.wrap 0 = 0 := IntWalk.i64_in _ (by omega)
  have hneg : ¬ ((m : Nat) : Int) < 0 := by omega
  have hbig : ¬ (281474976710656 : Int) < ((m : Nat) : Int) := by omega
  have hx1 : xs.length = n := by have := hown.1; omega
  have hlen : (xs ++ ints .u8 (List.replicate m 0)).length = (n + m) * 1 := by rw [List.length_append, hx1, noughts_length]; omega
  have grown : ∀ (old : Nat), old < n + m → ∀ (row : Option Nat),
      (w.drew.alloc (.cells (xs.toArray ++ (ints .u8 (List.replicate m 0)).toArray ++ Builtin.zeroCells #[Value.int .u8 0] (grownCap w (n + m) old 5 - (n + m))) 5)).ownsRow base 5 1
        (.slice (some ⟨w.heap.size, 0, none⟩) (n + m) (grownCap w (n + m) old 5)) (n + m) (xs ++ ints .u8 (List.replicate m 0)) ∧
      w.grownBy (w.drew.alloc (.cells (xs.toArray ++ (ints .u8 (List.replicate m 0)).toArray ++ Builtin.zeroCells #[Value.int .u8 0] (grownCap w (n + m) old 5 - (n + m))) 5)) row := by
    intro old ho row
    have hge := grownCap_ge w (n + m) old 5
    have hcm : grownCap w (n + m) old 5 ≤ maxLen := grownCap_le_maxLen w (n + m) old 5 (by unfold maxLen; omega)
    refine ⟨⟨hlen, .inr ⟨w.heap.size, _, _, rfl, hbase, heap_alloc_new w.drew _, hge, hcm, ?_, ?_⟩⟩, ⟨rfl, rfl, rfl, by simp, fun k hk _ => heap_alloc_old w.drew _ hk⟩⟩
    · simp only [Array.size_append, List.size_toArray, size_zeroCells, noughts_length, hx1, List.length_cons, List.length_nil]
      omega
    · simp only [Array.toList_append, List.append_assoc]
      rw [← List.append_assoc, ← hlen]
      exact List.take_left
  rcases hown.2 with ⟨rfl, rfl⟩ | ⟨g, cap, cur, rfl, hbg, hg, hnc, hcm, hcs, htake⟩
  · obtain rfl : xs = [] := List.eq_nil_of_length_eq_zero hx1
    by_cases h0 : m = 0
    · subst h0
      refine ⟨.slice none 0 0, w, ?_, World.ownsRow_nil w base 5 1, ⟨rfl, rfl, rfl, Nat.le_refl _, fun _ _ _ => rfl⟩⟩
      simp [Builtin.append_, run_underlying Try.underlying22, run_underlying Try.underlying3, sizeOf, typeInfo, hi, hby, asInt, asIntOf, hw0]
    · have hgr := grown 0 (by omega) (Value.ownBlock (.slice none 0 0))
      have hfit : ¬ (281474976710656 < Builtin.nextslicecap m 0) := by
        have := growslice_fits (need := m) (old := 0) (bytes := 1) (by omega) (by omega)
        omega
      have h63 : ¬ (9223372036854775807 : Int) < (m : Int) := by omega
      simp only [Nat.zero_add, List.nil_append, Array.empty_append] at hgr ⊢
      refine ⟨_, _, ?_, hgr.1, hgr.2⟩
      simp [Builtin.append_, run_underlying Try.underlying22, run_underlying Try.underlying3, sizeOf, typeInfo, zeroValue, hi, hsz, hby, hz, asInt, asIntOf, hwr, hneg, hbig, h0, hfit, h63, Question.forced, newRow, grownCap, Builtin.firstCells, Value.cells, zeroCells_u8]
  · by_cases hroom : n + m ≤ cap
    · have hst := run_storeCells_at Try.prog g n 5 (ints .u8 (List.replicate m 0)) 0 cur w hg (by rw [noughts_length]; omega) (fun u hu => by obtain ⟨q, _, rfl⟩ := List.mem_map.1 hu; rfl)
      simp only [Nat.add_zero] at hst
      refine ⟨.slice (some ⟨g, 0, none⟩) (n + m) cap, w.setRow g (cur.toList.take n ++ ints .u8 (List.replicate m 0) ++ cur.toList.drop (n + m)).toArray, ?_, ⟨hlen, .inr ⟨g, cap, _, rfl, hbg, setRow_heap w g cur _ 5 _ hg, hroom, hcm, ?_, ?_⟩⟩, ⟨rfl, rfl, rfl, by simp, fun k _ hk => setRow_other w g k _ (fun e => hk (by simp [Value.ownBlock, e]))⟩⟩
      · by_cases h0 : m = 0
        · subst h0
          simp [Builtin.append_, run_underlying Try.underlying22, run_underlying Try.underlying3, sizeOf, typeInfo, hi, hby, asInt, asIntOf, hw0, hnc, Addr.add_lit, storeCells, ints]
          exact (setRow_self w g cur 5 (0, 0) hg).symm
        · simp only [noughts_length] at hst
          simp [Builtin.append_, run_underlying Try.underlying22, run_underlying Try.underlying3, sizeOf, typeInfo, zeroValue, hi, hsz, hby, hz, asInt, asIntOf, hwr, hneg, hbig, h0, hroom, Value.cells, zeroCells_u8, Addr.add_lit, hst]
      · simp only [List.size_toArray, List.length_append, List.length_take, List.length_drop, Array.length_toList, noughts_length]
        omega
      · have ht : cur.toList.take n = xs := by simpa using htake
        rw [ht, ← hlen]
        exact List.take_left
    · have holds : ∀ j u, xs[j]? = some u → w.cell? ((⟨g, 0, none⟩ : Addr).add j) = some u := hown.cells (g := g) rfl
      have hgr := grown cap (by omega) (Value.ownBlock (.slice (some ⟨g, 0, none⟩) n cap))
      have hfit : ¬ (281474976710656 < Builtin.nextslicecap (n + m) cap) := by
        have := growslice_fits (need := n + m) (old := cap) (bytes := 1) (by omega) (by omega)
        omega
      have h63 : ¬ (9223372036854775807 : Int) < ((n : Int) + (m : Int)) := by omega
      have h0 : m ≠ 0 := by omega
      have hfo := run_firstCells_some (P := Try.prog) w.drew 1 n ⟨g, 0, none⟩ n cap xs (by omega) (by simpa using holds)
      refine ⟨_, _, ?_, hgr.1, hgr.2⟩
      simp [Builtin.append_, run_underlying Try.underlying22, run_underlying Try.underlying3, sizeOf, typeInfo, zeroValue, hi, hsz, hby, hz, asInt, asIntOf, hwr, hneg, hbig, h0, hroom, hfit, h63, Question.forced, newRow, grownCap, hfo, Value.cells, zeroCells_u8]
theorem law_append_noughts {ops : Array Oper} {rest : List Oper} {dst : Option Tmp} {T : TypeId} {pos : String} {after : Array Edge} {a : Act} {w : World} {Q : Exit → Act → World → Prop} {st xt : Tmp}
    (base : Nat) (v : Value) (n : Nat) (xs : List Value) (m : Nat) (hs : a.eval (.tmp st) = v) (hx : a.eval (.tmp xt) = .int .i64 (m : Nat)) (hown : w.ownsRow base 5 1 v n xs)
    (hn : n + m ≤ 100000) (hbase : base ≤ w.heap.size)
    (h : ∀ v' w', w'.ownsRow base 5 1 v' (n + m) (xs ++ ints .u8 (List.replicate m 0)) → w.grownBy w' v.ownBlock → wpList Try.prog ops Q rest (a.put dst v') w') :
    wpList Try.prog ops Q ({ dst := dst, op := .call { callee := .builtin .append, args := #[.tmp st, .tmp xt], argTypes := #[22, 3] }, type := T, pos := pos, after := after, guard := none } :: rest) a w := by
  obtain ⟨v', w', hr, h2, h3⟩ := run_append_noughts w base T v n xs hown m hn hbase
  refine wpList_plain rfl fun K hK => ?_
  unfold Oper.wp execOp
  simp only [resolve, invoke, builtin, Sem.run_bind, Sem.run_pure, Result.andThen_ok, List.map_toArray, List.map_cons, List.map_nil, hs, hx, hr]
  exact hK _ _ (h v' w' h2 h3)
end Go.Proofs.Ytedbfhbmpeogdaa.C8
