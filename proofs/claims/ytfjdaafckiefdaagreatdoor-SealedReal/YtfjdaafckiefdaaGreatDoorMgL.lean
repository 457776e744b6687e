/- Small laws of our own, over any program: loads and stores of whole rows as the walk meets them; quiet calls. -/
import Derived.WalkKit
import Derived.WalkSpells
import Derived.WalkLawsBesides
import Derived.BigQuiet
import Derived.Deep.QuietTactic
import Derived.Deep.RegionWith
import Derived.Deep.MidRow
import Derived.Deep.RegionHeldLaw
import Derived.Laws.CopyOwn
namespace Go.Proofs.YtfjdaafckiefdaaGreatDoor
open Go.RowKit
namespace Sp
/-- The number at a place, 0 beyond the end. -/
def nth (l : List Nat) (i : Nat) : Nat := l.getD i 0
theorem nth_lt {l : List Nat} {n : Nat} (hn : 0 < n) (h : ∀ x ∈ l, x < n) (i : Nat) : nth l i < n := by
  unfold nth
  rw [List.getD_eq_getElem?_getD]
  cases hh : l[i]? with
  | none => simpa using hn
  | some x => simpa using h x (List.mem_of_getElem? hh)
theorem nth_of {l : List Nat} {i : Nat} (h : i < l.length) : l[i]? = some (nth l i) := by simp [nth, h]
theorem nth_append_left {l m : List Nat} {i : Nat} (h : i < l.length) : nth (l ++ m) i = nth l i := by simp [nth, List.getElem?_append_left h]
theorem nth_append_right {l m : List Nat} (i : Nat) : nth (l ++ m) (l.length + i) = nth m i := by simp [nth, List.getElem?_append_right]
theorem nth_take {l : List Nat} {n i : Nat} (h : i < n) : nth (l.take n) i = nth l i := by simp [nth, h]
theorem nth_drop {l : List Nat} (n i : Nat) : nth (l.drop n) i = nth l (n + i) := by simp [nth, List.getElem?_drop]
end Sp
theorem ret_int {k : IntKind} {a b : Int} (h : a = b) : Ending.returned (.int k a) = .returned (.int k b) := by rw [h]
theorem quiet_more {P : Program} {f : FuncId} {args : Array Value} {w : World} {m n : Nat} {v : Value}
    (h : Calls P f args (w.drewN (m + n)) fun e w' => e = .returned v ∧ w' = w.drewN (m + n)) : Calls P f args (w.drewN (m + n)) fun e w'' => e = .returned v ∧ ∃ k, w'' = w.drewN (m + k) :=
  h.mono fun _ _ ⟨he, hm⟩ => ⟨he, n, hm⟩
theorem i64_id (n : Int) (h : -9223372036854775808 ≤ n ∧ n ≤ 9223372036854775807) : IntKind.i64.wrap n = n := by rw [IntKind.wrap_i64]; omega
/-- Where the walk is to stand still. -/
def Stop (p : Prop) : Prop := p
theorem Stop.go {p : Prop} (h : p) : Stop p := h
section
variable {P : Program} {ops : Array Oper} {rest : List Oper} {dst : Option Tmp} {ty : TypeId} {T : TypeId} {pos : String} {after : Array Edge} {a : Act} {w : World} {Q : Exit → Act → World → Prop}
theorem stop_store (ty : TypeId) {x y : Operand} (h : Stop (wpList P ops Q ({ dst := dst, op := .store ty x y, type := T, pos := pos, after := after, guard := none } :: rest) a w)) :
    wpList P ops Q ({ dst := dst, op := .store ty x y, type := T, pos := pos, after := after, guard := none } :: rest) a w := h
theorem stop_load (ty : TypeId) {x : Operand} (h : Stop (wpList P ops Q ({ dst := dst, op := .load ty x, type := T, pos := pos, after := after, guard := none } :: rest) a w)) :
    wpList P ops Q ({ dst := dst, op := .load ty x, type := T, pos := pos, after := after, guard := none } :: rest) a w := h
theorem stop_builtin (b : Builtin) {args : Array Operand} {argTypes : Array TypeId} (h : Stop (wpList P ops Q ({ dst := dst, op := .call { callee := .builtin b, args := args, argTypes := argTypes }, type := T, pos := pos, after := after, guard := none } :: rest) a w)) :
    wpList P ops Q ({ dst := dst, op := .call { callee := .builtin b, args := args, argTypes := argTypes }, type := T, pos := pos, after := after, guard := none } :: rest) a w := h
theorem stop_build (ty : TypeId) {parts : Array (Nat × Operand)} (h : Stop (wpList P ops Q ({ dst := dst, op := .build ty parts, type := T, pos := pos, after := after, guard := none } :: rest) a w)) :
    wpList P ops Q ({ dst := dst, op := .build ty parts, type := T, pos := pos, after := after, guard := none } :: rest) a w := h
theorem law_build {parts : Array (Nat × Operand)} (cs : Array Value) (hb : P.built ty (parts.map fun (i, x) => (i, a.eval x)).toList = some cs)
    (h : wpList P ops Q rest (a.put dst (.agg cs)) w) :
    wpList P ops Q ({ dst := dst, op := .build ty parts, type := T, pos := pos, after := after, guard := none } :: rest) a w :=
  wpList_build rfl ty parts rfl (by rw [hb]; rfl) (by rw [hb]; exact h)
theorem law_store {xt yt : Tmp} (b o : Nat) (cells : Array Value) (hx : a.eval (.tmp xt) = .pointer (some ⟨b, o, none⟩)) (hy : a.eval (.tmp yt) = .agg cells)
    (ht : w.there b o cells.size) (hi : (P.info? ty).map (·.size) = some cells.size) (h1 : cells.all (·.oneCell') = true)
    (h : wpList P ops Q rest (a.put dst undef) (w.setCells b o cells.toList)) :
    wpList P ops Q ({ dst := dst, op := .store ty (.tmp xt) (.tmp yt), type := T, pos := pos, after := after, guard := none } :: rest) a w :=
  wpList_store_mid rfl ty (.tmp xt) (.tmp yt) rfl b o cells hx hy ht hi h1 h
theorem law_store8 {xt yt : Tmp} (b o : Nat) (k : IntKind) (x0 x1 x2 x3 x4 x5 x6 x7 : Int) (hx : a.eval (.tmp xt) = .pointer (some ⟨b, o, none⟩)) (hy : a.eval (.tmp yt) = .agg #[.int k x0, .int k x1, .int k x2, .int k x3, .int k x4, .int k x5, .int k x6, .int k x7])
    (ht : w.there b o 8) (hi : (P.info? ty).map (·.size) = some 8)
    (h : wpList P ops Q rest (a.put dst undef) (w.setCells b o [.int k x0, .int k x1, .int k x2, .int k x3, .int k x4, .int k x5, .int k x6, .int k x7])) :
    wpList P ops Q ({ dst := dst, op := .store ty (.tmp xt) (.tmp yt), type := T, pos := pos, after := after, guard := none } :: rest) a w :=
  law_store b o _ hx hy ht hi (all_oneCell_toArray (cs := [.int k x0, .int k x1, .int k x2, .int k x3, .int k x4, .int k x5, .int k x6, .int k x7]) (fun v hv => by simp at hv; rcases hv with rfl | rfl | rfl | rfl | rfl | rfl | rfl | rfl <;> rfl)) h
theorem law_load {xt : Tmp} (b o : Nat) (cs : List Value) (d : TypeDesc) (hx : a.eval (.tmp xt) = .pointer (some ⟨b, o, none⟩)) (hc : w.rangeAt b o cs)
    (hu : P.underlying ty = some d) (hd : d.isRow = true) (hi : (P.info? ty).map (·.size) = some cs.length)
    (h : wpList P ops Q rest (a.put dst (.agg cs.toArray)) w) :
    wpList P ops Q ({ dst := dst, op := .load ty (.tmp xt), type := T, pos := pos, after := after, guard := none } :: rest) a w :=
  wpList_load_mid rfl ty (.tmp xt) rfl b o hx cs d hc hu hd hi h
theorem results_row {fn : Func} {p : Tmp} (h : fn.results = #[.cell p ty]) (tmps : Array Value) (w : World) (b o : Nat) (cs : List Value) (d : TypeDesc)
    (hp : tmps.getD p undef = .pointer (some ⟨b, o, none⟩)) (hc : w.rangeAt b o cs) (hu : P.underlying ty = some d) (hd : d.isRow = true) (hi : (P.info? ty).map (·.size) = some cs.length) :
    (results fn tmps).run P w = .ok (.agg cs.toArray) w := by
  have hp' : tmps[p]?.getD undef = .pointer (some ⟨b, o, none⟩) := by simpa using hp
  simp [results, h, hp', asAddr, run_loadVar_mid w b o ty cs d hc hu hd hi]
end

theorem Below.setCells {B : Nat} {a : World} (b : Nat) : ∀ (vs : List Value) (o : Nat) {w : World}, Below B a w → B ≤ b → Below B a (w.setCells b o vs)
  | [], _, _, h, _ => h
  | _ :: vs, o, _, h, hb => Below.setCells b vs (o + 1) (h.setCell hb _) hb

/-- Numbers as values. -/
def ints (k : IntKind) (l : List Nat) : List Value := l.map fun (n : Nat) => Value.int k (n : Int)
theorem ints_length (k : IntKind) (l : List Nat) : (ints k l).length = l.length := by simp [ints]
theorem ints_get (k : IntKind) (l : List Nat) (i : Nat) (h : i < l.length) : (ints k l)[i]? = some (.int k (Sp.nth l i : Nat)) := by
  simp [ints, Sp.nth, h]
/-- .. and as an array. -/
def arr (k : IntKind) (l : List Nat) : Array Value := (ints k l).toArray
theorem arr_size (k : IntKind) (l : List Nat) : (arr k l).size = l.length := by simp [arr, ints]
theorem arr_list (k : IntKind) (l : List Nat) : (arr k l).toList = ints k l := rfl
theorem arr_get (k : IntKind) (l : List Nat) (i : Nat) (h : i < l.length) : (arr k l)[i]? = some (.int k (Sp.nth l i : Nat)) := by
  rw [← ints_get k l i h]; simp [arr]
theorem ints_one (k : IntKind) (l : List Nat) : (arr k l).all (·.oneCell') = true := all_oneCell_toArray (fun v hv => by
  obtain ⟨n, _, rfl⟩ := List.mem_map.1 hv
  rfl)
theorem rangeAt_of_row {w : World} {b : Nat} {cs : List Value} {t : TypeId} {fr : Nat × Nat} (h : w.heap[b]? = some (.cells cs.toArray t fr)) : w.rangeAt b 0 cs := fun j v hv => by
  rw [cell_of_row _ _ _ _ _ _ h, Nat.zero_add]
  simpa using hv
theorem there_of_row {w : World} {b : Nat} {cs : Array Value} {t : TypeId} (h : w.heap[b]? = some (.cells cs t (0, 0))) (n : Nat) (hn : n ≤ cs.size) : w.there b 0 n := fun j hj => by
  rw [cell_of_row _ _ _ _ _ _ h, frozen_of_row _ _ _ _ _ h]
  exact ⟨by simp; omega, rfl⟩
theorem law_load_arr {P : Program} {ops : Array Oper} {rest : List Oper} {dst : Option Tmp} {ty : TypeId} {T : TypeId} {pos : String} {after : Array Edge} {a : Act} {w : World} {Q : Exit → Act → World → Prop} {xt : Tmp} (b o : Nat) (k : IntKind) (l : List Nat) (d : TypeDesc) (hx : a.eval (.tmp xt) = .pointer (some ⟨b, o, none⟩)) (hc : w.rangeAt b o (ints k l))
    (hu : P.underlying ty = some d) (hd : d.isRow = true) (hi : (P.info? ty).map (·.size) = some l.length)
    (h : wpList P ops Q rest (a.put dst (.agg (arr k l))) w) :
    wpList P ops Q ({ dst := dst, op := .load ty (.tmp xt), type := T, pos := pos, after := after, guard := none } :: rest) a w :=
  law_load b o (ints k l) d hx hc hu hd (by rw [ints_length]; exact hi) h
theorem info_of {P : Program} {e : TypeId} {z : Value} {s b : Nat} (h : (P.info? e).map (fun i => (i.size, i.bytes, i.zero)) = some (s, b, some z)) : ∃ i, P.info? e = some i ∧ i.size = s ∧ i.bytes = b ∧ i.zero = some z := by
  cases hq : P.info? e with
  | none => simp [hq] at h
  | some i =>
    simp [hq] at h
    exact ⟨i, rfl, h.1, h.2.1, h.2.2⟩
theorem grownBy_alloc (w : World) (o : Obj) (row : Option Nat) : w.grownBy (w.alloc o) row := ⟨rfl, rfl, rfl, by simp, fun k hk _ => Below.heap_alloc w o k hk⟩
theorem ownsRow_alloc {w : World} {base : Nat} {e : TypeId} {size : Nat} {v : Value} {n : Nat} {xs : List Value} (h : w.ownsRow base e size v n xs) (o : Obj) : (w.alloc o).ownsRow base e size v n xs :=
  h.kept (grownBy_alloc w o none) (by cases hv : v.ownBlock <;> simp)
theorem made_zeros (k : IntKind) (n : Nat) : madeCells #[.int k 0] n = arr k (List.replicate n 0) := by
  apply Array.ext
  · rw [size_madeCells, arr_size, List.length_replicate]
  · intro i h1 h2
    have e : (arr k (List.replicate n 0))[i]? = some (.int k 0) := by
      rw [arr_get _ _ _ (by simpa [arr_size] using h2)]
      simp [size_madeCells] at h1
      simp [Sp.nth, h1]
    rw [Array.getElem?_eq_getElem h2] at e
    rw [Option.some.inj e]
    simp [madeCells, Nat.mod_one]
/-- The cells of a block that was just laid. -/
theorem cells_new (w : World) (vs : List Value) (t : TypeId) : ∀ j u, vs[j]? = some u → (w.alloc (.cells vs.toArray t)).cell? ((⟨w.heap.size, 0, none⟩ : Addr).add j) = some u := fun j u hu => by
  rw [Addr.add_mid, Nat.zero_add, cell_of_row _ _ _ _ _ _ (heap_alloc_new w _)]
  simpa using hu
/-- One element of an array that is at hand as a value. -/
theorem run_index_arr {P : Program} (ty e : TypeId) (n : Nat) (k : IntKind) (l : List Nat) (i : Nat) (hu : P.underlying ty = some (.array n e)) (he : P.underlying e = some (.int k)) (hs : (P.info? e).map (·.size) = some 1)
    (hl : l.length = n) (hi : i < n) (w : World) : (Instr.index ty (.agg (arr k l)) (.int .i64 (i : Int))).run P w = .ok (.int k (Sp.nth l i : Nat)) w := by
  have h1 : (arr k l)[i]? = some (.int k (Sp.nth l i : Nat)) := arr_get k l i (by omega)
  cases hq : P.info? e with
  | none => simp [hq] at hs
  | some inf =>
    have hs' : inf.size = 1 := by simpa [hq] using hs
    simp [Instr.index, asIntOf, run_underlying hu, hi, sizeOf, typeInfo, hq, hs', part, isAgg, run_underlying he, h1]
/-- One cell of a row of numbers is set. -/
theorem rangeAt_set {w : World} {b : Nat} {k : IntKind} {l : List Nat} (h : w.rangeAt b 0 (ints k l)) (ht : w.there b 0 l.length) (i x : Nat) (hi : i < l.length) :
    (w.setCell ⟨b, i, none⟩ (.int k x)).rangeAt b 0 (ints k (l.set i x)) := by
  have e1 : w.setCell ⟨b, i, none⟩ (.int k x) = w.setCells b i [.int k x] := rfl
  intro j v hv
  rw [Nat.zero_add, e1]
  by_cases hj : j = i
  · subst hj
    have := World.cell?_setCells_in b [.int k x] j w (fun q hq => by simp at hq; subst hq; simpa using (ht j hi).1) 0 (by simp)
    rw [Nat.add_zero] at this
    rw [this, ← hv]
    simp [ints, hi]
  · rw [World.cell?_setCells_out _ _ _ _ _ (fun _ _ => by simp; omega)]
    have := h j v
    rw [Nat.zero_add] at this
    apply this
    rw [← hv]
    simp [ints, Ne.symm hj]
theorem cell_set_off (w : World) (b i j : Nat) (v : Value) (h : i ≠ j) : (w.setCell ⟨b, i, none⟩ v).cell? ⟨b, j, none⟩ = w.cell? ⟨b, j, none⟩ := by
  show (w.setCells b i [v]).cell? _ = _
  exact World.cell?_setCells_out _ _ _ _ _ (fun _ _ => by simp; omega)
theorem there_set {w : World} {b b' o n : Nat} {v : Value} (ht : w.there b o n) (i : Nat) : (w.setCell ⟨b', i, none⟩ v).there b o n := by
  intro j hj
  rw [World.frozen?_setCell]
  refine ⟨?_, (ht j hj).2⟩
  have h := (ht j hj).1
  obtain ⟨u, hu⟩ := Option.isSome_iff_exists.1 h
  obtain ⟨u', hu'⟩ := cell?_setCell_some (w := w) (p := ⟨b', i, none⟩) (x := v) hu
  rw [hu']; rfl
theorem ints_append (k : IntKind) (l m : List Nat) : ints k (l ++ m) = ints k l ++ ints k m := by simp [ints]
end Go.Proofs.YtfjdaafckiefdaaGreatDoor
/- More small laws: copy as a step of a region that draws its order. -/
namespace Go.Proofs.YtfjdaafckiefdaaGreatDoor
open Go.RowKit
theorem setRow_grown (w : World) (g : Nat) (cs : Array Value) : w.grownBy (w.setRow g cs) (some g) :=
  ⟨rfl, rfl, rfl, by simp, fun k _ hk => setRow_other w g k cs (fun e => hk (by rw [e]))⟩
/-- copy into the middle of a row that is known whole, as a step of a region. -/
theorem step_copy {P : Program} {ops : Array Oper} {o : Oper} {a : Act} {w : World} {K : Act → World → Prop} {Q : Exit → Act → World → Prop} {E : Prop} (hgd : o.guard = none) (d s : Operand) (dT sT : TypeId)
    (ho : o.op = .call { callee := .builtin .copy, args := #[d, s], argTypes := #[dT, sT] }) (elem : TypeId) (hu : P.underlying dT = some (.slice elem)) (hsz : (P.info? elem).map (·.size) = some 1)
    (dLen dCap sLen sCap : Nat) (g off : Nat) (ad : Addr) (hd : a.eval d = .slice (some ⟨g, off, none⟩) dLen dCap) (hs : a.eval s = .slice (some ad) sLen sCap)
    (cur : List Value) (t : TypeId) (hg : w.heap[g]? = some (.cells cur.toArray t (0, 0))) (cs : List Value) (hn : cs.length = Nat.min sLen dLen)
    (hsrc : ∀ j v, cs[j]? = some v → w.cell? (ad.add j) = some v)
    (hfit : off + cs.length ≤ cur.length) (h1 : ∀ v ∈ cs, v.oneCell' = true)
    (h : ∀ w', w'.heap.size = w.heap.size → Hid (w'.heap[g]? = some (.cells (splice cur off cs).toArray t (0, 0))) → Hid (w.grownBy w' (some g)) → K (a.put o.dst (goInt cs.length)) w') :
    if Region.wanted o (yielded ops a.tmps) = true then Oper.wp P o a w K Q else E := by
  have hw : Region.wanted o (yielded ops a.tmps) = true := by simp [Region.wanted, hgd]
  rw [if_pos hw]
  have hrun := run_copy_row (P := P) w dT sT o.type elem g off dLen dCap ad sLen sCap cur.toArray t cs hu hsz hg hn hsrc (by simpa using hfit) h1
  unfold Oper.wp
  simp only [execOp, ho, resolve, invoke, builtin, hd, hs, hrun, Sem.run_bind, Sem.run_pure, Result.andThen_ok, List.map_toArray, List.map_cons, List.map_nil, Oper.upon]
  refine h _ (by simp) ?_ (setRow_grown w g _)
  have := setRow_heap w g cur.toArray (cur.take off ++ cs ++ cur.drop (off + cs.length)).toArray t (0, 0) hg
  show _ = _
  simpa [splice] using this

def putAll (a : Act) : List Tmp → List Value → Act
  | d :: ds, v :: vs => putAll (a.put (some d) v) ds vs
  | _, _ => a
/-- What is known behind a statement: the temporaries that it has set, and a fact on the world. -/
def Sets (a : Act) (ds : List Tmp) (R : World → Prop) (e : Exit) (a' : Act) (w' : World) : Prop := e = .normal ∧ (∃ vs : List Value, vs.length = ds.length ∧ a' = putAll a ds vs) ∧ R w'
theorem wp_sets {P : Program} {c : Code} {Q : Exit → Act → World → Prop} {a : Act} {w : World} (ds : List Tmp) (R : World → Prop)
    (first : c.wp P (Sets a ds R) a w) (rest : ∀ vs w', vs.length = ds.length → R w' → Q .normal (putAll a ds vs) w') : c.wp P Q a w :=
  wp_mono first (by rintro e a' w' ⟨rfl, ⟨vs, hl, rfl⟩, hr⟩; exact rest vs w' hl hr)
section
variable {P : Program} {ops : Array Oper} {Q : Exit → Act → World → Prop} {S : World → Prop} {md : Region.Mode}
/-- One operation alone may come up. -/
theorem held_one {i fuel : Nat} {listed : Array Bool} {a : Act} {w : World} (hr : Region.ready md ops listed = [i])
    (h : wpOp P ops Q i (fun a' w' => S w' ∧ wpAnyH P md ops Q S fuel (listed.setIfInBounds i true) a' w') a w) : wpAnyH P md ops Q S (fuel + 1) listed a w :=
  wpAnyH_all hr (by simp) (fun j hj => by rw [List.mem_singleton] at hj; subst hj; exact h)
/-- It is a call: by its contract. -/
theorem wpOp_call {i : Nat} {o : Oper} {K : Act → World → Prop} {a : Act} {w : World} (f : FuncId) (args : Array Value) (hi : ops[i]? = some o) (hw : Region.wanted o (yielded ops a.tmps) = true)
    (hr : (execOp a.eval o).run P w = .ok (.enter f args) w) (h : Calls P f args w fun e w' => ∃ v, e = .returned v ∧ K (a.put o.dst v) w') : wpOp P ops Q i K a w := by
  unfold wpOp
  simp only [hi, hw, if_true]
  refine .inl ?_
  unfold Oper.wp
  rw [hr]
  exact h.mono (by rintro e w' ⟨v, rfl, hk⟩; exact hk)
/-- It yields a value and leaves a world. -/
theorem wpOp_value {i : Nat} {o : Oper} {K : Act → World → Prop} {a : Act} {w w' : World} (v : Value) (hi : ops[i]? = some o) (hw : Region.wanted o (yielded ops a.tmps) = true)
    (hr : (execOp a.eval o).run P w = .ok (.value v) w') (h : K (a.put o.dst v) w') : wpOp P ops Q i K a w := by
  unfold wpOp
  simp only [hi, hw, if_true]
  refine .inl ?_
  unfold Oper.wp
  rw [hr]
  exact h
theorem wpOp_load {i : Nat} {o : Oper} {K : Act → World → Prop} {a : Act} {w : World} (ty : TypeId) (x : Operand) (b of : Nat) (cs : List Value) (d : TypeDesc) (hi : ops[i]? = some o) (hw : Region.wanted o (yielded ops a.tmps) = true)
    (ho : o.op = .load ty x) (hx : a.eval x = .pointer (some ⟨b, of, none⟩)) (hc : w.rangeAt b of cs)
    (hu : P.underlying ty = some d) (hd : d.isRow = true) (hs : (P.info? ty).map (·.size) = some cs.length)
    (h : K (a.put o.dst (.agg cs.toArray)) w) : wpOp P ops Q i K a w := by
  unfold wpOp
  simp only [hi, hw, if_true]
  exact .inl (wp_load_mid ty x ho b of hx cs d hc hu hd hs h)
/-- One of two operations comes up. -/
theorem held_two {i j fuel : Nat} {listed : Array Bool} {a : Act} {w : World} (hr : Region.ready md ops listed = [i, j])
    (h : wpOp P ops Q i (fun a' w' => S w' ∧ wpAnyH P md ops Q S fuel (listed.setIfInBounds i true) a' w') a w)
    (h' : wpOp P ops Q j (fun a' w' => S w' ∧ wpAnyH P md ops Q S fuel (listed.setIfInBounds j true) a' w') a w) : wpAnyH P md ops Q S (fuel + 1) listed a w :=
  wpAnyH_all hr (by simp) (fun k hk => by
    simp only [List.mem_cons, List.not_mem_nil, or_false] at hk
    rcases hk with rfl | rfl
    · exact h
    · exact h')
theorem wpOp_store {i : Nat} {o : Oper} {K : Act → World → Prop} {a : Act} {w : World} (ty : TypeId) (x y : Operand) (b of : Nat) (cells : Array Value) (hi : ops[i]? = some o) (hw : Region.wanted o (yielded ops a.tmps) = true)
    (ho : o.op = .store ty x y) (hx : a.eval x = .pointer (some ⟨b, of, none⟩)) (hy : a.eval y = .agg cells)
    (ht : w.there b of cells.size) (hs : (P.info? ty).map (·.size) = some cells.size) (h1 : cells.all (·.oneCell') = true)
    (h : K (a.put o.dst undef) (w.setCells b of cells.toList)) : wpOp P ops Q i K a w := by
  unfold wpOp
  simp only [hi, hw, if_true]
  exact .inl (wp_store_mid ty x y ho b of cells hx hy ht hs h1 h)
end
/-- Many cells of a row are set. -/
theorem heap_setCells (g : Nat) (t : TypeId) : ∀ (vs : List Value) (o : Nat) (w : World) (cur : List Value), w.heap[g]? = some (.cells cur.toArray t (0, 0)) → o + vs.length ≤ cur.length →
    (w.setCells g o vs).heap[g]? = some (.cells (cur.take o ++ (vs ++ cur.drop (o + vs.length))).toArray t (0, 0))
  | [], o, w, cur, h, _ => by simpa [World.setCells] using h
  | v :: vs, o, w, cur, h, hl => by
    have h1 := heap_setCell_same w g o _ t v h
    rw [List.setIfInBounds_toArray] at h1
    have := heap_setCells g t vs (o + 1) (w.setCell ⟨g, o, none⟩ v) (cur.set o v) h1 (by simp at hl ⊢; omega)
    rw [World.setCells, this]
    congr 3
    simp only [List.length_cons] at hl
    rw [List.take_set, List.drop_set_of_lt (by omega), List.take_add_one, List.set_append_right _ _ (by simp; omega)]
    simp only [List.length_take, Nat.min_eq_left (by omega : o ≤ cur.length), Nat.sub_self, List.length_cons]
    have : cur[o]? = some cur[o] := List.getElem?_eq_getElem (by omega)
    rw [this]
    simp [Nat.add_assoc, Nat.add_comm 1]
theorem grownBy_setCells {w : World} {row : Nat} : ∀ (vs : List Value) (o : Nat) {w' : World}, w.grownBy w' (some row) → w.grownBy (w'.setCells row o vs) (some row)
  | [], _, _, h => h
  | v :: vs, o, _, h => grownBy_setCells vs (o + 1) ⟨h.os, h.tape, h.output, by simpa [World.setCell] using h.size, fun k hk hne => by rw [Below.heap_setCell _ _ _ _ (fun e => hne (by rw [e]))]; exact h.block k hk hne⟩
theorem grownBy_set {w w' : World} {row : Nat} (h : w.grownBy w' (some row)) (i : Nat) (v : Value) : w.grownBy (w'.setCell ⟨row, i, none⟩ v) (some row) :=
  ⟨h.os, h.tape, h.output, by simpa [World.setCell] using h.size, fun k hk hne => by rw [Below.heap_setCell _ _ _ _ (fun e => hne (by rw [e]))]; exact h.block k hk hne⟩
theorem grownBy_trans {w w' w'' : World} {row : Option Nat} (h : w.grownBy w' row) (h' : w'.grownBy w'' row) : w.grownBy w'' row :=
  ⟨h'.os.trans h.os, h'.tape.trans h.tape, h'.output.trans h.output, Nat.le_trans h.size h'.size, fun k hk hne => (h'.block k (Nat.lt_of_lt_of_le hk h.size) hne).trans (h.block k hk hne)⟩
theorem rangeAt_below {w w' : World} {b o : Nat} {cs : List Value} (hb : Below w.heap.size w w') (h : w.rangeAt b o cs) : w'.rangeAt b o cs := fun j v hv => by
  have h1 := h j v hv
  rw [← h1]
  exact hb.cell (World.block_lt_of_cell? w _ h1)
theorem grownBy_refl (w : World) (row : Option Nat) : w.grownBy w row := ⟨rfl, rfl, rfl, Nat.le_refl _, fun _ _ _ => rfl⟩
theorem grownBy_drewN {w w' : World} {row : Option Nat} (h : w.grownBy w' row) (n : Nat) : w.grownBy (w'.drewN n) row := ⟨h.os, h.tape, h.output, h.size, h.block⟩
theorem grownBy_below {w w' : World} {row : Option Nat} (h : Below w.heap.size w w') : w.grownBy w' row := ⟨h.os, h.tape, h.output, h.size, fun k hk _ => h.block k hk⟩
end Go.Proofs.YtfjdaafckiefdaaGreatDoor
