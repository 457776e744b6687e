/- Small laws of our own, over any program: loads and stores of whole rows as the walk meets them; quiet calls. -/
import Derived.WalkKit
import Derived.WalkSpells
import Derived.WalkLawsBesides
import Derived.BigQuiet
import Derived.Deep.QuietTactic
import Derived.Deep.RegionWith
import Derived.Deep.MidRow
namespace Go.Proofs.Ytchoiioeeepoaaa
open Go.RowKit
namespace Sp
/-- The number at a place, 0 beyond the end. -/
def nth (l : List Nat) (i : Nat) : Nat := l.getD i 0
theorem nth_lt {l : List Nat} {n : Nat} (hn : 0 < n) (h : ∀ x ∈ l, x < n) (i : Nat) : nth l i < n := by
  unfold nth
  rw [List.getD_eq_getElem?_getD]
  cases hh : l[i]? with
  | none => simpa using hn
  | some x => simpa using h x (List.mem_of_getElem? hh)
theorem nth_of {l : List Nat} {i : Nat} (h : i < l.length) : l[i]? = some (nth l i) := by simp [nth, h]
theorem nth_append_left {l m : List Nat} {i : Nat} (h : i < l.length) : nth (l ++ m) i = nth l i := by simp [nth, List.getElem?_append_left h]
theorem nth_append_right {l m : List Nat} (i : Nat) : nth (l ++ m) (l.length + i) = nth m i := by simp [nth, List.getElem?_append_right]
theorem nth_take {l : List Nat} {n i : Nat} (h : i < n) : nth (l.take n) i = nth l i := by simp [nth, h]
theorem nth_drop {l : List Nat} (n i : Nat) : nth (l.drop n) i = nth l (n + i) := by simp [nth, List.getElem?_drop]
end Sp
theorem ret_int {k : IntKind} {a b : Int} (h : a = b) : Ending.returned (.int k a) = .returned (.int k b) := by rw [h]
theorem quiet_more {P : Program} {f : FuncId} {args : Array Value} {w : World} {m n : Nat} {v : Value}
    (h : Calls P f args (w.drewN (m + n)) fun e w' => e = .returned v ∧ w' = w.drewN (m + n)) : Calls P f args (w.drewN (m + n)) fun e w'' => e = .returned v ∧ ∃ k, w'' = w.drewN (m + k) :=
  h.mono fun _ _ ⟨he, hm⟩ => ⟨he, n, hm⟩
theorem i64_id (n : Int) (h : -9223372036854775808 ≤ n ∧ n ≤ 9223372036854775807) : IntKind.i64.wrap n = n := by rw [IntKind.wrap_i64]; omega
/-- Where the walk is to stand still. -/
def Stop (p : Prop) : Prop := p
theorem Stop.go {p : Prop} (h : p) : Stop p := h
section
variable {P : Program} {ops : Array Oper} {rest : List Oper} {dst : Option Tmp} {ty : TypeId} {T : TypeId} {pos : String} {after : Array Edge} {a : Act} {w : World} {Q : Exit → Act → World → Prop}
theorem stop_store (ty : TypeId) {x y : Operand} (h : Stop (wpList P ops Q ({ dst := dst, op := .store ty x y, type := T, pos := pos, after := after, guard := none } :: rest) a w)) :
    wpList P ops Q ({ dst := dst, op := .store ty x y, type := T, pos := pos, after := after, guard := none } :: rest) a w := h
theorem stop_load (ty : TypeId) {x : Operand} (h : Stop (wpList P ops Q ({ dst := dst, op := .load ty x, type := T, pos := pos, after := after, guard := none } :: rest) a w)) :
    wpList P ops Q ({ dst := dst, op := .load ty x, type := T, pos := pos, after := after, guard := none } :: rest) a w := h
theorem stop_builtin (b : Builtin) {args : Array Operand} {argTypes : Array TypeId} (h : Stop (wpList P ops Q ({ dst := dst, op := .call { callee := .builtin b, args := args, argTypes := argTypes }, type := T, pos := pos, after := after, guard := none } :: rest) a w)) :
    wpList P ops Q ({ dst := dst, op := .call { callee := .builtin b, args := args, argTypes := argTypes }, type := T, pos := pos, after := after, guard := none } :: rest) a w := h
theorem stop_build (ty : TypeId) {parts : Array (Nat × Operand)} (h : Stop (wpList P ops Q ({ dst := dst, op := .build ty parts, type := T, pos := pos, after := after, guard := none } :: rest) a w)) :
    wpList P ops Q ({ dst := dst, op := .build ty parts, type := T, pos := pos, after := after, guard := none } :: rest) a w := h
theorem law_build {parts : Array (Nat × Operand)} (cs : Array Value) (hb : P.built ty (parts.map fun (i, x) => (i, a.eval x)).toList = some cs)
    (h : wpList P ops Q rest (a.put dst (.agg cs)) w) :
    wpList P ops Q ({ dst := dst, op := .build ty parts, type := T, pos := pos, after := after, guard := none } :: rest) a w :=
  wpList_build rfl ty parts rfl (by rw [hb]; rfl) (by rw [hb]; exact h)
theorem law_store {xt yt : Tmp} (b o : Nat) (cells : Array Value) (hx : a.eval (.tmp xt) = .pointer (some ⟨b, o, none⟩)) (hy : a.eval (.tmp yt) = .agg cells)
    (ht : w.there b o cells.size) (hi : (P.info? ty).map (·.size) = some cells.size) (h1 : cells.all (·.oneCell') = true)
    (h : wpList P ops Q rest (a.put dst undef) (w.setCells b o cells.toList)) :
    wpList P ops Q ({ dst := dst, op := .store ty (.tmp xt) (.tmp yt), type := T, pos := pos, after := after, guard := none } :: rest) a w :=
  wpList_store_mid rfl ty (.tmp xt) (.tmp yt) rfl b o cells hx hy ht hi h1 h
theorem law_store8 {xt yt : Tmp} (b o : Nat) (k : IntKind) (x0 x1 x2 x3 x4 x5 x6 x7 : Int) (hx : a.eval (.tmp xt) = .pointer (some ⟨b, o, none⟩)) (hy : a.eval (.tmp yt) = .agg #[.int k x0, .int k x1, .int k x2, .int k x3, .int k x4, .int k x5, .int k x6, .int k x7])
    (ht : w.there b o 8) (hi : (P.info? ty).map (·.size) = some 8)
    (h : wpList P ops Q rest (a.put dst undef) (w.setCells b o [.int k x0, .int k x1, .int k x2, .int k x3, .int k x4, .int k x5, .int k x6, .int k x7])) :
    wpList P ops Q ({ dst := dst, op := .store ty (.tmp xt) (.tmp yt), type := T, pos := pos, after := after, guard := none } :: rest) a w :=
  law_store b o _ hx hy ht hi (all_oneCell_toArray (cs := [.int k x0, .int k x1, .int k x2, .int k x3, .int k x4, .int k x5, .int k x6, .int k x7]) (fun v hv => by simp at hv; rcases hv with rfl | rfl | rfl | rfl | rfl | rfl | rfl | rfl <;> rfl)) h
theorem law_load {xt : Tmp} (b o : Nat) (cs : List Value) (d : TypeDesc) (hx : a.eval (.tmp xt) = .pointer (some ⟨b, o, none⟩)) (hc : w.rangeAt b o cs)
    (hu : P.underlying ty = some d) (hd : d.isRow = true) (hi : (P.info? ty).map (·.size) = some cs.length)
    (h : wpList P ops Q rest (a.put dst (.agg cs.toArray)) w) :
    wpList P ops Q ({ dst := dst, op := .load ty (.tmp xt), type := T, pos := pos, after := after, guard := none } :: rest) a w :=
  wpList_load_mid rfl ty (.tmp xt) rfl b o hx cs d hc hu hd hi h
theorem results_row {fn : Func} {p : Tmp} (h : fn.results = #[.cell p ty]) (tmps : Array Value) (w : World) (b o : Nat) (cs : List Value) (d : TypeDesc)
    (hp : tmps.getD p undef = .pointer (some ⟨b, o, none⟩)) (hc : w.rangeAt b o cs) (hu : P.underlying ty = some d) (hd : d.isRow = true) (hi : (P.info? ty).map (·.size) = some cs.length) :
    (results fn tmps).run P w = .ok (.agg cs.toArray) w := by
  have hp' : tmps[p]?.getD undef = .pointer (some ⟨b, o, none⟩) := by simpa using hp
  simp [results, h, hp', asAddr, run_loadVar_mid w b o ty cs d hc hu hd hi]
end

theorem Below.setCells {B : Nat} {a : World} (b : Nat) : ∀ (vs : List Value) (o : Nat) {w : World}, Below B a w → B ≤ b → Below B a (w.setCells b o vs)
  | [], _, _, h, _ => h
  | _ :: vs, o, _, h, hb => Below.setCells b vs (o + 1) (h.setCell hb _) hb

/-- Numbers as values. -/
def ints (k : IntKind) (l : List Nat) : List Value := l.map fun (n : Nat) => Value.int k (n : Int)
theorem ints_length (k : IntKind) (l : List Nat) : (ints k l).length = l.length := by simp [ints]
theorem ints_get (k : IntKind) (l : List Nat) (i : Nat) (h : i < l.length) : (ints k l)[i]? = some (.int k (Sp.nth l i : Nat)) := by
  simp [ints, Sp.nth, h]
/-- .. and as an array. -/
def arr (k : IntKind) (l : List Nat) : Array Value := (ints k l).toArray
theorem arr_size (k : IntKind) (l : List Nat) : (arr k l).size = l.length := by simp [arr, ints]
theorem arr_list (k : IntKind) (l : List Nat) : (arr k l).toList = ints k l := rfl
theorem arr_get (k : IntKind) (l : List Nat) (i : Nat) (h : i < l.length) : (arr k l)[i]? = some (.int k (Sp.nth l i : Nat)) := by
  rw [← ints_get k l i h]; simp [arr]
theorem ints_one (k : IntKind) (l : List Nat) : (arr k l).all (·.oneCell') = true := all_oneCell_toArray (fun v hv => by
  obtain ⟨n, _, rfl⟩ := List.mem_map.1 hv
  rfl)
theorem rangeAt_of_row {w : World} {b : Nat} {cs : List Value} {t : TypeId} {fr : Nat × Nat} (h : w.heap[b]? = some (.cells cs.toArray t fr)) : w.rangeAt b 0 cs := fun j v hv => by
  rw [cell_of_row _ _ _ _ _ _ h, Nat.zero_add]
  simpa using hv
theorem there_of_row {w : World} {b : Nat} {cs : Array Value} {t : TypeId} (h : w.heap[b]? = some (.cells cs t (0, 0))) (n : Nat) (hn : n ≤ cs.size) : w.there b 0 n := fun j hj => by
  rw [cell_of_row _ _ _ _ _ _ h, frozen_of_row _ _ _ _ _ h]
  exact ⟨by simp; omega, rfl⟩
theorem law_load_arr {P : Program} {ops : Array Oper} {rest : List Oper} {dst : Option Tmp} {ty : TypeId} {T : TypeId} {pos : String} {after : Array Edge} {a : Act} {w : World} {Q : Exit → Act → World → Prop} {xt : Tmp} (b o : Nat) (k : IntKind) (l : List Nat) (d : TypeDesc) (hx : a.eval (.tmp xt) = .pointer (some ⟨b, o, none⟩)) (hc : w.rangeAt b o (ints k l))
    (hu : P.underlying ty = some d) (hd : d.isRow = true) (hi : (P.info? ty).map (·.size) = some l.length)
    (h : wpList P ops Q rest (a.put dst (.agg (arr k l))) w) :
    wpList P ops Q ({ dst := dst, op := .load ty (.tmp xt), type := T, pos := pos, after := after, guard := none } :: rest) a w :=
  law_load b o (ints k l) d hx hc hu hd (by rw [ints_length]; exact hi) h
theorem info_of {P : Program} {e : TypeId} {z : Value} {s b : Nat} (h : (P.info? e).map (fun i => (i.size, i.bytes, i.zero)) = some (s, b, some z)) : ∃ i, P.info? e = some i ∧ i.size = s ∧ i.bytes = b ∧ i.zero = some z := by
  cases hq : P.info? e with
  | none => simp [hq] at h
  | some i =>
    simp [hq] at h
    exact ⟨i, rfl, h.1, h.2.1, h.2.2⟩
theorem grownBy_alloc (w : World) (o : Obj) (row : Option Nat) : w.grownBy (w.alloc o) row := ⟨rfl, rfl, rfl, by simp, fun k hk _ => Below.heap_alloc w o k hk⟩
theorem ownsRow_alloc {w : World} {base : Nat} {e : TypeId} {size : Nat} {v : Value} {n : Nat} {xs : List Value} (h : w.ownsRow base e size v n xs) (o : Obj) : (w.alloc o).ownsRow base e size v n xs :=
  h.kept (grownBy_alloc w o none) (by cases hv : v.ownBlock <;> simp)
theorem made_zeros (k : IntKind) (n : Nat) : madeCells #[.int k 0] n = arr k (List.replicate n 0) := by
  apply Array.ext
  · rw [size_madeCells, arr_size, List.length_replicate]
  · intro i h1 h2
    have e : (arr k (List.replicate n 0))[i]? = some (.int k 0) := by
      rw [arr_get _ _ _ (by simpa [arr_size] using h2)]
      simp [size_madeCells] at h1
      simp [Sp.nth, h1]
    rw [Array.getElem?_eq_getElem h2] at e
    rw [Option.some.inj e]
    simp [madeCells, Nat.mod_one]
/-- The cells of a block that was just laid. -/
theorem cells_new (w : World) (vs : List Value) (t : TypeId) : ∀ j u, vs[j]? = some u → (w.alloc (.cells vs.toArray t)).cell? ((⟨w.heap.size, 0, none⟩ : Addr).add j) = some u := fun j u hu => by
  rw [Addr.add_mid, Nat.zero_add, cell_of_row _ _ _ _ _ _ (heap_alloc_new w _)]
  simpa using hu
/-- One element of an array that is at hand as a value. -/
theorem run_index_arr {P : Program} (ty e : TypeId) (n : Nat) (k : IntKind) (l : List Nat) (i : Nat) (hu : P.underlying ty = some (.array n e)) (he : P.underlying e = some (.int k)) (hs : (P.info? e).map (·.size) = some 1)
    (hl : l.length = n) (hi : i < n) (w : World) : (Instr.index ty (.agg (arr k l)) (.int .i64 (i : Int))).run P w = .ok (.int k (Sp.nth l i : Nat)) w := by
  have h1 : (arr k l)[i]? = some (.int k (Sp.nth l i : Nat)) := arr_get k l i (by omega)
  cases hq : P.info? e with
  | none => simp [hq] at hs
  | some inf =>
    have hs' : inf.size = 1 := by simpa [hq] using hs
    simp [Instr.index, asIntOf, run_underlying hu, hi, sizeOf, typeInfo, hq, hs', part, isAgg, run_underlying he, h1]
/-- One cell of a row of numbers is set. -/
theorem rangeAt_set {w : World} {b : Nat} {k : IntKind} {l : List Nat} (h : w.rangeAt b 0 (ints k l)) (ht : w.there b 0 l.length) (i x : Nat) (hi : i < l.length) :
    (w.setCell ⟨b, i, none⟩ (.int k x)).rangeAt b 0 (ints k (l.set i x)) := by
  have e1 : w.setCell ⟨b, i, none⟩ (.int k x) = w.setCells b i [.int k x] := rfl
  intro j v hv
  rw [Nat.zero_add, e1]
  by_cases hj : j = i
  · subst hj
    have := World.cell?_setCells_in b [.int k x] j w (fun q hq => by simp at hq; subst hq; simpa using (ht j hi).1) 0 (by simp)
    rw [Nat.add_zero] at this
    rw [this, ← hv]
    simp [ints, hi]
  · rw [World.cell?_setCells_out _ _ _ _ _ (fun _ _ => by simp; omega)]
    have := h j v
    rw [Nat.zero_add] at this
    apply this
    rw [← hv]
    simp [ints, Ne.symm hj]
theorem cell_set_off (w : World) (b i j : Nat) (v : Value) (h : i ≠ j) : (w.setCell ⟨b, i, none⟩ v).cell? ⟨b, j, none⟩ = w.cell? ⟨b, j, none⟩ := by
  show (w.setCells b i [v]).cell? _ = _
  exact World.cell?_setCells_out _ _ _ _ _ (fun _ _ => by simp; omega)
theorem there_set {w : World} {b b' o n : Nat} {v : Value} (ht : w.there b o n) (i : Nat) : (w.setCell ⟨b', i, none⟩ v).there b o n := by
  intro j hj
  rw [World.frozen?_setCell]
  refine ⟨?_, (ht j hj).2⟩
  have h := (ht j hj).1
  obtain ⟨u, hu⟩ := Option.isSome_iff_exists.1 h
  obtain ⟨u', hu'⟩ := cell?_setCell_some (w := w) (p := ⟨b', i, none⟩) (x := v) hu
  rw [hu']; rfl
theorem ints_append (k : IntKind) (l m : List Nat) : ints k (l ++ m) = ints k l ++ ints k m := by simp [ints]
end Go.Proofs.Ytchoiioeeepoaaa
