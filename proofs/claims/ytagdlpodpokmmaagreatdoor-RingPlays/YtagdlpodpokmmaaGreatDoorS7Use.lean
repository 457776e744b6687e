/- What the statements' walks use of the contracts: a new suite; sums and codes of one part that is laid for the call; a text that stands in the program. -/
import Derived.Test.YtagdlpodpokmmaaGreatDoorMgO
namespace Go.Proofs.YtagdlpodpokmmaaGreatDoor.S7
open Go.RowKit
theorem heap_freeze_same (w : World) (g o n : Nat) (cs : Array Value) (t : TypeId) (fr : Nat × Nat) (h : w.heap[g]? = some (.cells cs t fr)) : ∃ fr', (w.freeze ⟨g, o, none⟩ n).heap[g]? = some (.cells cs t fr') := by
  unfold World.freeze
  split
  · exact ⟨fr, h⟩
  · obtain ⟨lo, hi⟩ := fr
    apply Exists.intro
    simp only [Array.getElem?_modify, if_true, h, Option.map_some]
    rfl
theorem heap_freeze_other (w : World) (g o n k : Nat) (h : k ≠ g) : (w.freeze ⟨g, o, none⟩ n).heap[k]? = w.heap[k]? := by
  unfold World.freeze
  split
  · rfl
  · simp only [Array.getElem?_modify]
    rw [if_neg (fun e => h e.symm)]
theorem size_freeze (w : World) (a : Addr) (n : Nat) : (w.freeze a n).heap.size = w.heap.size := by
  unfold World.freeze
  split <;> simp
theorem freeze_keeps (w : World) (a : Addr) (n : Nat) : (w.freeze a n).os = w.os ∧ (w.freeze a n).tape = w.tape ∧ (w.freeze a n).output = w.output := by
  unfold World.freeze
  split <;> exact ⟨rfl, rfl, rfl⟩
/-- A text of one byte that stands in the program. -/
theorem lit_one (w : World) (a : Nat) (z : Int) (hz : z = (a : Int)) (ha : a < 256) : ∃ w1, (convert 22 22 (.slice (some ⟨w.heap.size, 0, none⟩) 1 1)).run Tryz.prog (w.alloc (.cells #[.int .u8 z] 5)) = .ok (.slice (some ⟨w.heap.size, 0, none⟩) 1 1) w1 ∧
    Src w1 (.slice (some ⟨w.heap.size, 0, none⟩) 1 1) [a] ∧ Below w.heap.size w w1 ∧ w1.heap.size = w.heap.size + 1 := by
  subst hz
  have h0 := heap_alloc_new w (.cells #[.int .u8 (a : Int)] 5)
  have hsh : (w.alloc (.cells #[.int .u8 (a : Int)] 5)).shape? w.heap.size = some (5, 1) := by
    unfold World.shape?
    rw [h0]
    rfl
  obtain ⟨fr, hfr⟩ := heap_freeze_same _ w.heap.size 1 1 _ _ _ h0
  refine ⟨(w.alloc (.cells #[.int .u8 (a : Int)] 5)).freeze ⟨w.heap.size, 1, none⟩ 1, ?_, ?_, ?_, ?_⟩
  · simp [convert, run_underlying Tryz.underlying22, run_underlying Tryz.underlying5, markStringish, hsh]
  · exact Src.row (fun y hy => by rw [List.mem_singleton.1 hy]; exact ha) (Nat.le_refl 1) (rangeAt_of_row (t := 5) (fr := fr) hfr) rfl
  · obtain ⟨e1, e2, e3⟩ := freeze_keeps (w.alloc (.cells #[.int .u8 (a : Int)] 5)) ⟨w.heap.size, 1, none⟩ 1
    refine ⟨e1, e2, e3, by rw [size_freeze]; simp, fun k hk => ?_⟩
    rw [heap_freeze_other _ _ _ _ _ (by omega)]
    exact Below.heap_alloc w _ k hk
  · rw [size_freeze]; simp
theorem law_convert {P : Program} {ops : Array Oper} {rest : List Oper} {dst : Option Tmp} {T : TypeId} {pos : String} {after : Array Edge} {a : Act} {w : World} {Q : Exit → Act → World → Prop} {ty tz : TypeId} {x : Operand} (v0 v1 : Value) (w1 : World)
    (hx : a.eval x = v0) (hrun : (convert ty tz v0).run P w = .ok v1 w1) (h : wpList P ops Q rest (a.put dst v1) w1) :
    wpList P ops Q ({ dst := dst, op := .convert ty tz x, type := T, pos := pos, after := after, guard := none } :: rest) a w := by
  refine wpList_plain rfl fun K' hK' => ?_
  unfold Oper.wp
  simp [execOp, hx, hrun, Result.andThen]
  exact hK' _ _ h
theorem Signs_new (w : World) : Calls Tryz.prog 5 #[] w fun e w' => ∃ p q m x, e = .returned (.pointer (some ⟨p, 0, none⟩)) ∧ SuIs w' p q m x [] ∧ Below w.heap.size w w' ∧ (w.heap.size ≤ p ∧ w.heap.size ≤ q ∧ w.heap.size ≤ m ∧ w.heap.size ≤ x) :=
  (Signs_any w).mono (fun _ _ ⟨h1, h2, h3, _⟩ => ⟨_, _, _, _, h1, h2, h3, by omega⟩)
theorem cell_part (w : World) (v : Value) : (w.alloc (.cells #[v] 22)).cell? ⟨w.heap.size, 0, none⟩ = some v := by
  rw [cell_of_row _ _ _ _ _ _ (heap_alloc_new w _)]
  rfl
theorem Code_at (k l : List Nat) (kv v : Value) (p q m x : Nat) (L : List Su.Thing) (w : World) (h : SuIs w p q m x L) (hk : Src w kv k) (hv : Src w v l) (hl : l.length ≤ 50000) (hL : L.length < 1000000) :
    Calls Tryz.prog 43 #[.pointer (some ⟨p, 0, none⟩), kv, .slice (some ⟨w.heap.size, 0, none⟩) 1 1] (w.alloc (.cells #[v] 22)) fun e w' => ∃ u, e = .returned u ∧ w'.ownsRow w.heap.size 5 1 u 32 (ints .u8 (Su.sign 77 (Su.num L 77 k l))) ∧ SuIs w' p q m x (Su.add L 77 k l) ∧ Only [p, m] w w' := by
  have hb : Below w.heap.size w (w.alloc (.cells #[v] 22)) := (Below.refl _ _).alloc (Nat.le_refl _) _
  refine (Code_one k l w.heap.size 0 1 kv v p q m x L _ (h.below hb) (hk.below hb) (cell_part w v) (hv.below hb) hl hL).mono ?_
  rintro e w' ⟨u, rfl, h1, h2, h3⟩
  exact ⟨u, rfl, own_older h1 hb.size, h2, (Only.of_below hb _).trans h3⟩
/-- A sign that was told stays what it is, whatever is asked of suites that were there. -/
theorem own_stays {w w' : World} {B : Nat} {v : Value} {n : Nat} {l : List Nat} {bs : List Nat} (h : w.ownsRow B 5 1 v n (ints .u8 l)) (ho : Only bs w w') (hs : ∀ y ∈ bs, y < B) : w'.ownsRow B 5 1 v n (ints .u8 l) :=
  own_only h ho (own_off h hs)
end Go.Proofs.YtagdlpodpokmmaaGreatDoor.S7
