/- Maps that the code itself makes: by the list of their entries; whoever asks is told the first that bears the key; a new one stands last. -/
import Derived.Maps.OwnOps
import Derived.Laws.StructEq
import Derived.WalkKit
namespace Go.Proofs.YtagdlpodpokmmaaGreatDoor.S7
open Go.RowKit
/-- A block is a map with these entries, in their order. -/
def MapIs (w : World) (b : Nat) (l : List (Value × Value)) : Prop := ∃ es c, w.heap[b]? = some (.map es c) ∧ es.toList.map (fun e => (e.key, e.val)) = l
section
variable {P : Program} {w w' : World} {b : Nat} {l : List (Value × Value)}
theorem MapIs.lt (h : MapIs w b l) : b < w.heap.size := by
  obtain ⟨es, c, hb, _⟩ := h
  exact (Array.getElem?_eq_some_iff.1 hb).1
theorem MapIs.kept (h : MapIs w b l) (hk : w'.heap[b]? = w.heap[b]?) : MapIs w' b l := by
  obtain ⟨es, c, hb, e⟩ := h
  exact ⟨es, c, hk.trans hb, e⟩
theorem MapIs.made (w : World) : MapIs (w.alloc (.map #[] 0)) w.heap.size [] := ⟨#[], 0, (MapKept.heap_alloc w _).1, rfl⟩
/-- The value of the first entry that bears a key. -/
def look (same : Value → Bool) : List (Value × Value) → Option Value
  | [] => none
  | e :: r => if same e.1 then some e.2 else look same r
theorem look_append (same : Value → Bool) (l m : List (Value × Value)) : look same (l ++ m) = (look same l).or (look same m) := by
  induction l with
  | nil => simp [look]
  | cons e r ih =>
    simp only [List.cons_append, look]
    split
    · simp
    · exact ih
/-- What the search tells, where each comparison is quiet. -/
theorem run_findAsking {k : TypeId} {key : Value} {same : Value → Bool} (es : List MapEntry) (i : Nat)
    (h : ∀ e ∈ es, (Op.equal k key e.key).run P w = .ok (same e.key) w) :
    ∃ r, (Instr.findAsking k key es i).run P w = .ok r w ∧ r.map (·.2) = look same (es.map (fun e => (e.key, e.val))) := by
  induction es generalizing i with
  | nil => exact ⟨none, by simp [Instr.findAsking], rfl⟩
  | cons e r ih =>
    have h0 := h e (by simp)
    obtain ⟨q, h1, h2⟩ := ih (i + 1) (fun x hx => h x (by simp [hx]))
    cases hs : same e.key with
    | true => exact ⟨some (i, e.val), by simp [Instr.findAsking, h0, hs], by simp [look, hs]⟩
    | false => exact ⟨q, by simp [Instr.findAsking, h0, hs, h1], by simp [look, hs, h2]⟩
/-- A map's look-up with its answer whether there is one. -/
theorem run_look {t k e : TypeId} {key z : Value} {r : Option (Nat × Value)} {es : Array MapEntry} {c : Nat} (ht : P.underlying t = some (.map k e)) (hb : w.heap[b]? = some (.map es c))
    (hc : (Instr.checkKey es.isEmpty 10000 k key).run P w = .ok () w) (hf : (Instr.findKey k key es.toList).run P w = .ok r w) (hz : (zeroValue e).run P w = .ok z w) :
    (Instr.lookup t (.map (some b)) key true).run P w = .ok (match r.map (·.2) with | some v => .tuple #[v, .bool true] | none => .tuple #[z, .bool false]) w := by
  cases r with
  | none => simp [Instr.lookup, run_underlying ht, MapKept.run_getObj_map hb, hc, hf, hz, Result.andThen]
  | some p => simp [Instr.lookup, run_underlying ht, MapKept.run_getObj_map hb, hc, hf, Result.andThen]
/-- A key that isn't there is put behind all. -/
theorem run_put {t k e : TypeId} {key val : Value} {es : Array MapEntry} {c : Nat} (ht : P.underlying t = some (.map k e)) (hb : w.heap[b]? = some (.map es c))
    (hc : (Instr.checkKey false 10000 k key).run P w = .ok () w) (hf : (Instr.findKey k key es.toList).run P w = .ok none w) :
    (Instr.mapUpdate t (.map (some b)) key val).run P w = .ok () (ChangeMaps.setBlock w b (.map (es.push ⟨key, val, c⟩) (c + 1))) := by
  simp [Instr.mapUpdate, run_underlying ht, MapKept.run_getObj_map hb, hc, hf, MapKept.run_setObj_map _ hb, Result.andThen, ChangeMaps.setBlock]
end
end Go.Proofs.YtagdlpodpokmmaaGreatDoor.S7
