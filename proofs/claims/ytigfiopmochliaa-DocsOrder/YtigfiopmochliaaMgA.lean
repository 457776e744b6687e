/- Small laws of our own, over any program: loads and stores of whole rows as the walk meets them; quiet calls. -/
import Derived.WalkKit
import Derived.WalkSpells
import Derived.WalkLawsBesides
import Derived.BigQuiet
import Derived.Deep.QuietTactic
import Derived.Deep.RegionWith
import Derived.Deep.MidRow
import Derived.Deep.RegionHeldLaw
import Derived.Laws.CopyOwn
import Derived.Laws.IdiomStrings
import Derived.Test.YtigfiopmochliaaProg
import Derived.Laws.AppendOwn
import Derived.Laws.AppendOwnNone
import Derived.Laws.MakeOwn
import Derived.WalkMore
import Derived.BigRegion
import Derived.Deep.RegionHeld3
import Derived.Maps.AppendAt
import Derived.Lib.ConvBytes
import Derived.Laws.BitsAllLaws
import Derived.ScopeJumps
import Derived.Lib.SmallJoins
namespace Go.Proofs.Ytigfiopmochliaa
open Go.RowKit
namespace Sp
/-- The number at a place, 0 beyond the end. -/
def nth (l : List Nat) (i : Nat) : Nat := l.getD i 0
theorem nth_lt {l : List Nat} {n : Nat} (hn : 0 < n) (h : ∀ x ∈ l, x < n) (i : Nat) : nth l i < n := by
  unfold nth
  rw [List.getD_eq_getElem?_getD]
  cases hh : l[i]? with
  | none => simpa using hn
  | some x => simpa using h x (List.mem_of_getElem? hh)
theorem nth_of {l : List Nat} {i : Nat} (h : i < l.length) : l[i]? = some (nth l i) := by simp [nth, h]
theorem nth_append_left {l m : List Nat} {i : Nat} (h : i < l.length) : nth (l ++ m) i = nth l i := by simp [nth, List.getElem?_append_left h]
theorem nth_append_right {l m : List Nat} (i : Nat) : nth (l ++ m) (l.length + i) = nth m i := by simp [nth, List.getElem?_append_right]
theorem nth_take {l : List Nat} {n i : Nat} (h : i < n) : nth (l.take n) i = nth l i := by simp [nth, h]
theorem nth_drop {l : List Nat} (n i : Nat) : nth (l.drop n) i = nth l (n + i) := by simp [nth, List.getElem?_drop]
end Sp
theorem ret_int {k : IntKind} {a b : Int} (h : a = b) : Ending.returned (.int k a) = .returned (.int k b) := by rw [h]
theorem quiet_more {P : Program} {f : FuncId} {args : Array Value} {w : World} {m n : Nat} {v : Value}
    (h : Calls P f args (w.drewN (m + n)) fun e w' => e = .returned v ∧ w' = w.drewN (m + n)) : Calls P f args (w.drewN (m + n)) fun e w'' => e = .returned v ∧ ∃ k, w'' = w.drewN (m + k) :=
  h.mono fun _ _ ⟨he, hm⟩ => ⟨he, n, hm⟩
theorem i64_id (n : Int) (h : -9223372036854775808 ≤ n ∧ n ≤ 9223372036854775807) : IntKind.i64.wrap n = n := by rw [IntKind.wrap_i64]; omega
/-- Where the walk is to stand still. -/
def Stop (p : Prop) : Prop := p
theorem Stop.go {p : Prop} (h : p) : Stop p := h
section
variable {P : Program} {ops : Array Oper} {rest : List Oper} {dst : Option Tmp} {ty : TypeId} {T : TypeId} {pos : String} {after : Array Edge} {a : Act} {w : World} {Q : Exit → Act → World → Prop}
theorem stop_store (ty : TypeId) {x y : Operand} (h : Stop (wpList P ops Q ({ dst := dst, op := .store ty x y, type := T, pos := pos, after := after, guard := none } :: rest) a w)) :
    wpList P ops Q ({ dst := dst, op := .store ty x y, type := T, pos := pos, after := after, guard := none } :: rest) a w := h
theorem stop_load (ty : TypeId) {x : Operand} (h : Stop (wpList P ops Q ({ dst := dst, op := .load ty x, type := T, pos := pos, after := after, guard := none } :: rest) a w)) :
    wpList P ops Q ({ dst := dst, op := .load ty x, type := T, pos := pos, after := after, guard := none } :: rest) a w := h
theorem stop_builtin (b : Builtin) {args : Array Operand} {argTypes : Array TypeId} (h : Stop (wpList P ops Q ({ dst := dst, op := .call { callee := .builtin b, args := args, argTypes := argTypes }, type := T, pos := pos, after := after, guard := none } :: rest) a w)) :
    wpList P ops Q ({ dst := dst, op := .call { callee := .builtin b, args := args, argTypes := argTypes }, type := T, pos := pos, after := after, guard := none } :: rest) a w := h
theorem stop_build (ty : TypeId) {parts : Array (Nat × Operand)} (h : Stop (wpList P ops Q ({ dst := dst, op := .build ty parts, type := T, pos := pos, after := after, guard := none } :: rest) a w)) :
    wpList P ops Q ({ dst := dst, op := .build ty parts, type := T, pos := pos, after := after, guard := none } :: rest) a w := h
theorem law_build {parts : Array (Nat × Operand)} (cs : Array Value) (hb : P.built ty (parts.map fun (i, x) => (i, a.eval x)).toList = some cs)
    (h : wpList P ops Q rest (a.put dst (.agg cs)) w) :
    wpList P ops Q ({ dst := dst, op := .build ty parts, type := T, pos := pos, after := after, guard := none } :: rest) a w :=
  wpList_build rfl ty parts rfl (by rw [hb]; rfl) (by rw [hb]; exact h)
theorem law_store {xt yt : Tmp} (b o : Nat) (cells : Array Value) (hx : a.eval (.tmp xt) = .pointer (some ⟨b, o, none⟩)) (hy : a.eval (.tmp yt) = .agg cells)
    (ht : w.there b o cells.size) (hi : (P.info? ty).map (·.size) = some cells.size) (h1 : cells.all (·.oneCell') = true)
    (h : wpList P ops Q rest (a.put dst undef) (w.setCells b o cells.toList)) :
    wpList P ops Q ({ dst := dst, op := .store ty (.tmp xt) (.tmp yt), type := T, pos := pos, after := after, guard := none } :: rest) a w :=
  wpList_store_mid rfl ty (.tmp xt) (.tmp yt) rfl b o cells hx hy ht hi h1 h
theorem law_store8 {xt yt : Tmp} (b o : Nat) (k : IntKind) (x0 x1 x2 x3 x4 x5 x6 x7 : Int) (hx : a.eval (.tmp xt) = .pointer (some ⟨b, o, none⟩)) (hy : a.eval (.tmp yt) = .agg #[.int k x0, .int k x1, .int k x2, .int k x3, .int k x4, .int k x5, .int k x6, .int k x7])
    (ht : w.there b o 8) (hi : (P.info? ty).map (·.size) = some 8)
    (h : wpList P ops Q rest (a.put dst undef) (w.setCells b o [.int k x0, .int k x1, .int k x2, .int k x3, .int k x4, .int k x5, .int k x6, .int k x7])) :
    wpList P ops Q ({ dst := dst, op := .store ty (.tmp xt) (.tmp yt), type := T, pos := pos, after := after, guard := none } :: rest) a w :=
  law_store b o _ hx hy ht hi (all_oneCell_toArray (cs := [.int k x0, .int k x1, .int k x2, .int k x3, .int k x4, .int k x5, .int k x6, .int k x7]) (fun v hv => by simp at hv; rcases hv with rfl | rfl | rfl | rfl | rfl | rfl | rfl | rfl <;> rfl)) h
theorem law_load {xt : Tmp} (b o : Nat) (cs : List Value) (d : TypeDesc) (hx : a.eval (.tmp xt) = .pointer (some ⟨b, o, none⟩)) (hc : w.rangeAt b o cs)
    (hu : P.underlying ty = some d) (hd : d.isRow = true) (hi : (P.info? ty).map (·.size) = some cs.length)
    (h : wpList P ops Q rest (a.put dst (.agg cs.toArray)) w) :
    wpList P ops Q ({ dst := dst, op := .load ty (.tmp xt), type := T, pos := pos, after := after, guard := none } :: rest) a w :=
  wpList_load_mid rfl ty (.tmp xt) rfl b o hx cs d hc hu hd hi h
theorem results_row {fn : Func} {p : Tmp} (h : fn.results = #[.cell p ty]) (tmps : Array Value) (w : World) (b o : Nat) (cs : List Value) (d : TypeDesc)
    (hp : tmps.getD p undef = .pointer (some ⟨b, o, none⟩)) (hc : w.rangeAt b o cs) (hu : P.underlying ty = some d) (hd : d.isRow = true) (hi : (P.info? ty).map (·.size) = some cs.length) :
    (results fn tmps).run P w = .ok (.agg cs.toArray) w := by
  have hp' : tmps[p]?.getD undef = .pointer (some ⟨b, o, none⟩) := by simpa using hp
  simp [results, h, hp', asAddr, run_loadVar_mid w b o ty cs d hc hu hd hi]
end

theorem Below.setCells {B : Nat} {a : World} (b : Nat) : ∀ (vs : List Value) (o : Nat) {w : World}, Below B a w → B ≤ b → Below B a (w.setCells b o vs)
  | [], _, _, h, _ => h
  | _ :: vs, o, _, h, hb => Below.setCells b vs (o + 1) (h.setCell hb _) hb

/-- Numbers as values. -/
def ints (k : IntKind) (l : List Nat) : List Value := l.map fun (n : Nat) => Value.int k (n : Int)
theorem ints_length (k : IntKind) (l : List Nat) : (ints k l).length = l.length := by simp [ints]
theorem ints_get (k : IntKind) (l : List Nat) (i : Nat) (h : i < l.length) : (ints k l)[i]? = some (.int k (Sp.nth l i : Nat)) := by
  simp [ints, Sp.nth, h]
/-- .. and as an array. -/
def arr (k : IntKind) (l : List Nat) : Array Value := (ints k l).toArray
theorem arr_size (k : IntKind) (l : List Nat) : (arr k l).size = l.length := by simp [arr, ints]
theorem arr_list (k : IntKind) (l : List Nat) : (arr k l).toList = ints k l := rfl
theorem arr_get (k : IntKind) (l : List Nat) (i : Nat) (h : i < l.length) : (arr k l)[i]? = some (.int k (Sp.nth l i : Nat)) := by
  rw [← ints_get k l i h]; simp [arr]
theorem ints_one (k : IntKind) (l : List Nat) : (arr k l).all (·.oneCell') = true := all_oneCell_toArray (fun v hv => by
  obtain ⟨n, _, rfl⟩ := List.mem_map.1 hv
  rfl)
theorem rangeAt_of_row {w : World} {b : Nat} {cs : List Value} {t : TypeId} {fr : Nat × Nat} (h : w.heap[b]? = some (.cells cs.toArray t fr)) : w.rangeAt b 0 cs := fun j v hv => by
  rw [cell_of_row _ _ _ _ _ _ h, Nat.zero_add]
  simpa using hv
theorem there_of_row {w : World} {b : Nat} {cs : Array Value} {t : TypeId} (h : w.heap[b]? = some (.cells cs t (0, 0))) (n : Nat) (hn : n ≤ cs.size) : w.there b 0 n := fun j hj => by
  rw [cell_of_row _ _ _ _ _ _ h, frozen_of_row _ _ _ _ _ h]
  exact ⟨by simp; omega, rfl⟩
theorem law_load_arr {P : Program} {ops : Array Oper} {rest : List Oper} {dst : Option Tmp} {ty : TypeId} {T : TypeId} {pos : String} {after : Array Edge} {a : Act} {w : World} {Q : Exit → Act → World → Prop} {xt : Tmp} (b o : Nat) (k : IntKind) (l : List Nat) (d : TypeDesc) (hx : a.eval (.tmp xt) = .pointer (some ⟨b, o, none⟩)) (hc : w.rangeAt b o (ints k l))
    (hu : P.underlying ty = some d) (hd : d.isRow = true) (hi : (P.info? ty).map (·.size) = some l.length)
    (h : wpList P ops Q rest (a.put dst (.agg (arr k l))) w) :
    wpList P ops Q ({ dst := dst, op := .load ty (.tmp xt), type := T, pos := pos, after := after, guard := none } :: rest) a w :=
  law_load b o (ints k l) d hx hc hu hd (by rw [ints_length]; exact hi) h
theorem info_of {P : Program} {e : TypeId} {z : Value} {s b : Nat} (h : (P.info? e).map (fun i => (i.size, i.bytes, i.zero)) = some (s, b, some z)) : ∃ i, P.info? e = some i ∧ i.size = s ∧ i.bytes = b ∧ i.zero = some z := by
  cases hq : P.info? e with
  | none => simp [hq] at h
  | some i =>
    simp [hq] at h
    exact ⟨i, rfl, h.1, h.2.1, h.2.2⟩
theorem grownBy_alloc (w : World) (o : Obj) (row : Option Nat) : w.grownBy (w.alloc o) row := ⟨rfl, rfl, rfl, by simp, fun k hk _ => Below.heap_alloc w o k hk⟩
theorem ownsRow_alloc {w : World} {base : Nat} {e : TypeId} {size : Nat} {v : Value} {n : Nat} {xs : List Value} (h : w.ownsRow base e size v n xs) (o : Obj) : (w.alloc o).ownsRow base e size v n xs :=
  h.kept (grownBy_alloc w o none) (by cases hv : v.ownBlock <;> simp)
theorem made_zeros (k : IntKind) (n : Nat) : madeCells #[.int k 0] n = arr k (List.replicate n 0) := by
  apply Array.ext
  · rw [size_madeCells, arr_size, List.length_replicate]
  · intro i h1 h2
    have e : (arr k (List.replicate n 0))[i]? = some (.int k 0) := by
      rw [arr_get _ _ _ (by simpa [arr_size] using h2)]
      simp [size_madeCells] at h1
      simp [Sp.nth, h1]
    rw [Array.getElem?_eq_getElem h2] at e
    rw [Option.some.inj e]
    simp [madeCells, Nat.mod_one]
/-- The cells of a block that was just laid. -/
theorem cells_new (w : World) (vs : List Value) (t : TypeId) : ∀ j u, vs[j]? = some u → (w.alloc (.cells vs.toArray t)).cell? ((⟨w.heap.size, 0, none⟩ : Addr).add j) = some u := fun j u hu => by
  rw [Addr.add_mid, Nat.zero_add, cell_of_row _ _ _ _ _ _ (heap_alloc_new w _)]
  simpa using hu
/-- One element of an array that is at hand as a value. -/
theorem run_index_arr {P : Program} (ty e : TypeId) (n : Nat) (k : IntKind) (l : List Nat) (i : Nat) (hu : P.underlying ty = some (.array n e)) (he : P.underlying e = some (.int k)) (hs : (P.info? e).map (·.size) = some 1)
    (hl : l.length = n) (hi : i < n) (w : World) : (Instr.index ty (.agg (arr k l)) (.int .i64 (i : Int))).run P w = .ok (.int k (Sp.nth l i : Nat)) w := by
  have h1 : (arr k l)[i]? = some (.int k (Sp.nth l i : Nat)) := arr_get k l i (by omega)
  cases hq : P.info? e with
  | none => simp [hq] at hs
  | some inf =>
    have hs' : inf.size = 1 := by simpa [hq] using hs
    simp [Instr.index, asIntOf, run_underlying hu, hi, sizeOf, typeInfo, hq, hs', part, isAgg, run_underlying he, h1]
/-- One cell of a row of numbers is set. -/
theorem rangeAt_set {w : World} {b : Nat} {k : IntKind} {l : List Nat} (h : w.rangeAt b 0 (ints k l)) (ht : w.there b 0 l.length) (i x : Nat) (hi : i < l.length) :
    (w.setCell ⟨b, i, none⟩ (.int k x)).rangeAt b 0 (ints k (l.set i x)) := by
  have e1 : w.setCell ⟨b, i, none⟩ (.int k x) = w.setCells b i [.int k x] := rfl
  intro j v hv
  rw [Nat.zero_add, e1]
  by_cases hj : j = i
  · subst hj
    have := World.cell?_setCells_in b [.int k x] j w (fun q hq => by simp at hq; subst hq; simpa using (ht j hi).1) 0 (by simp)
    rw [Nat.add_zero] at this
    rw [this, ← hv]
    simp [ints, hi]
  · rw [World.cell?_setCells_out _ _ _ _ _ (fun _ _ => by simp; omega)]
    have := h j v
    rw [Nat.zero_add] at this
    apply this
    rw [← hv]
    simp [ints, Ne.symm hj]
theorem cell_set_off (w : World) (b i j : Nat) (v : Value) (h : i ≠ j) : (w.setCell ⟨b, i, none⟩ v).cell? ⟨b, j, none⟩ = w.cell? ⟨b, j, none⟩ := by
  show (w.setCells b i [v]).cell? _ = _
  exact World.cell?_setCells_out _ _ _ _ _ (fun _ _ => by simp; omega)
theorem there_set {w : World} {b b' o n : Nat} {v : Value} (ht : w.there b o n) (i : Nat) : (w.setCell ⟨b', i, none⟩ v).there b o n := by
  intro j hj
  rw [World.frozen?_setCell]
  refine ⟨?_, (ht j hj).2⟩
  have h := (ht j hj).1
  obtain ⟨u, hu⟩ := Option.isSome_iff_exists.1 h
  obtain ⟨u', hu'⟩ := cell?_setCell_some (w := w) (p := ⟨b', i, none⟩) (x := v) hu
  rw [hu']; rfl
theorem ints_append (k : IntKind) (l m : List Nat) : ints k (l ++ m) = ints k l ++ ints k m := by simp [ints]
end Go.Proofs.Ytigfiopmochliaa
/- More small laws: copy as a step of a region that draws its order. -/
namespace Go.Proofs.Ytigfiopmochliaa
open Go.RowKit
theorem setRow_grown (w : World) (g : Nat) (cs : Array Value) : w.grownBy (w.setRow g cs) (some g) :=
  ⟨rfl, rfl, rfl, by simp, fun k _ hk => setRow_other w g k cs (fun e => hk (by rw [e]))⟩
/-- copy into the middle of a row that is known whole, as a step of a region. -/
theorem step_copy {P : Program} {ops : Array Oper} {o : Oper} {a : Act} {w : World} {K : Act → World → Prop} {Q : Exit → Act → World → Prop} {E : Prop} (hgd : o.guard = none) (d s : Operand) (dT sT : TypeId)
    (ho : o.op = .call { callee := .builtin .copy, args := #[d, s], argTypes := #[dT, sT] }) (elem : TypeId) (hu : P.underlying dT = some (.slice elem)) (hsz : (P.info? elem).map (·.size) = some 1)
    (dLen dCap sLen sCap : Nat) (g off : Nat) (ad : Addr) (hd : a.eval d = .slice (some ⟨g, off, none⟩) dLen dCap) (hs : a.eval s = .slice (some ad) sLen sCap)
    (cur : List Value) (t : TypeId) (hg : w.heap[g]? = some (.cells cur.toArray t (0, 0))) (cs : List Value) (hn : cs.length = Nat.min sLen dLen)
    (hsrc : ∀ j v, cs[j]? = some v → w.cell? (ad.add j) = some v)
    (hfit : off + cs.length ≤ cur.length) (h1 : ∀ v ∈ cs, v.oneCell' = true)
    (h : ∀ w', w'.heap.size = w.heap.size → Hid (w'.heap[g]? = some (.cells (splice cur off cs).toArray t (0, 0))) → Hid (w.grownBy w' (some g)) → K (a.put o.dst (goInt cs.length)) w') :
    if Region.wanted o (yielded ops a.tmps) = true then Oper.wp P o a w K Q else E := by
  have hw : Region.wanted o (yielded ops a.tmps) = true := by simp [Region.wanted, hgd]
  rw [if_pos hw]
  have hrun := run_copy_row (P := P) w dT sT o.type elem g off dLen dCap ad sLen sCap cur.toArray t cs hu hsz hg hn hsrc (by simpa using hfit) h1
  unfold Oper.wp
  simp only [execOp, ho, resolve, invoke, builtin, hd, hs, hrun, Sem.run_bind, Sem.run_pure, Result.andThen_ok, List.map_toArray, List.map_cons, List.map_nil, Oper.upon]
  refine h _ (by simp) ?_ (setRow_grown w g _)
  have := setRow_heap w g cur.toArray (cur.take off ++ cs ++ cur.drop (off + cs.length)).toArray t (0, 0) hg
  show _ = _
  simpa [splice] using this

def putAll (a : Act) : List Tmp → List Value → Act
  | d :: ds, v :: vs => putAll (a.put (some d) v) ds vs
  | _, _ => a
/-- What is known behind a statement: the temporaries that it has set, and a fact on the world. -/
def Sets (a : Act) (ds : List Tmp) (R : World → Prop) (e : Exit) (a' : Act) (w' : World) : Prop := e = .normal ∧ (∃ vs : List Value, vs.length = ds.length ∧ a' = putAll a ds vs) ∧ R w'
theorem wp_sets {P : Program} {c : Code} {Q : Exit → Act → World → Prop} {a : Act} {w : World} (ds : List Tmp) (R : World → Prop)
    (first : c.wp P (Sets a ds R) a w) (rest : ∀ vs w', vs.length = ds.length → R w' → Q .normal (putAll a ds vs) w') : c.wp P Q a w :=
  wp_mono first (by rintro e a' w' ⟨rfl, ⟨vs, hl, rfl⟩, hr⟩; exact rest vs w' hl hr)
section
variable {P : Program} {ops : Array Oper} {Q : Exit → Act → World → Prop} {S : World → Prop} {md : Region.Mode}
/-- One operation alone may come up. -/
theorem held_one {i fuel : Nat} {listed : Array Bool} {a : Act} {w : World} (hr : Region.ready md ops listed = [i])
    (h : wpOp P ops Q i (fun a' w' => S w' ∧ wpAnyH P md ops Q S fuel (listed.setIfInBounds i true) a' w') a w) : wpAnyH P md ops Q S (fuel + 1) listed a w :=
  wpAnyH_all hr (by simp) (fun j hj => by rw [List.mem_singleton] at hj; subst hj; exact h)
/-- It is a call: by its contract. -/
theorem wpOp_call {i : Nat} {o : Oper} {K : Act → World → Prop} {a : Act} {w : World} (f : FuncId) (args : Array Value) (hi : ops[i]? = some o) (hw : Region.wanted o (yielded ops a.tmps) = true)
    (hr : (execOp a.eval o).run P w = .ok (.enter f args) w) (h : Calls P f args w fun e w' => ∃ v, e = .returned v ∧ K (a.put o.dst v) w') : wpOp P ops Q i K a w := by
  unfold wpOp
  simp only [hi, hw, if_true]
  refine .inl ?_
  unfold Oper.wp
  rw [hr]
  exact h.mono (by rintro e w' ⟨v, rfl, hk⟩; exact hk)
/-- It yields a value and leaves a world. -/
theorem wpOp_value {i : Nat} {o : Oper} {K : Act → World → Prop} {a : Act} {w w' : World} (v : Value) (hi : ops[i]? = some o) (hw : Region.wanted o (yielded ops a.tmps) = true)
    (hr : (execOp a.eval o).run P w = .ok (.value v) w') (h : K (a.put o.dst v) w') : wpOp P ops Q i K a w := by
  unfold wpOp
  simp only [hi, hw, if_true]
  refine .inl ?_
  unfold Oper.wp
  rw [hr]
  exact h
theorem wpOp_load {i : Nat} {o : Oper} {K : Act → World → Prop} {a : Act} {w : World} (ty : TypeId) (x : Operand) (b of : Nat) (cs : List Value) (d : TypeDesc) (hi : ops[i]? = some o) (hw : Region.wanted o (yielded ops a.tmps) = true)
    (ho : o.op = .load ty x) (hx : a.eval x = .pointer (some ⟨b, of, none⟩)) (hc : w.rangeAt b of cs)
    (hu : P.underlying ty = some d) (hd : d.isRow = true) (hs : (P.info? ty).map (·.size) = some cs.length)
    (h : K (a.put o.dst (.agg cs.toArray)) w) : wpOp P ops Q i K a w := by
  unfold wpOp
  simp only [hi, hw, if_true]
  exact .inl (wp_load_mid ty x ho b of hx cs d hc hu hd hs h)
/-- One of two operations comes up. -/
theorem held_two {i j fuel : Nat} {listed : Array Bool} {a : Act} {w : World} (hr : Region.ready md ops listed = [i, j])
    (h : wpOp P ops Q i (fun a' w' => S w' ∧ wpAnyH P md ops Q S fuel (listed.setIfInBounds i true) a' w') a w)
    (h' : wpOp P ops Q j (fun a' w' => S w' ∧ wpAnyH P md ops Q S fuel (listed.setIfInBounds j true) a' w') a w) : wpAnyH P md ops Q S (fuel + 1) listed a w :=
  wpAnyH_all hr (by simp) (fun k hk => by
    simp only [List.mem_cons, List.not_mem_nil, or_false] at hk
    rcases hk with rfl | rfl
    · exact h
    · exact h')
theorem wpOp_store {i : Nat} {o : Oper} {K : Act → World → Prop} {a : Act} {w : World} (ty : TypeId) (x y : Operand) (b of : Nat) (cells : Array Value) (hi : ops[i]? = some o) (hw : Region.wanted o (yielded ops a.tmps) = true)
    (ho : o.op = .store ty x y) (hx : a.eval x = .pointer (some ⟨b, of, none⟩)) (hy : a.eval y = .agg cells)
    (ht : w.there b of cells.size) (hs : (P.info? ty).map (·.size) = some cells.size) (h1 : cells.all (·.oneCell') = true)
    (h : K (a.put o.dst undef) (w.setCells b of cells.toList)) : wpOp P ops Q i K a w := by
  unfold wpOp
  simp only [hi, hw, if_true]
  exact .inl (wp_store_mid ty x y ho b of cells hx hy ht hs h1 h)
end
/-- Many cells of a row are set. -/
theorem heap_setCells (g : Nat) (t : TypeId) : ∀ (vs : List Value) (o : Nat) (w : World) (cur : List Value), w.heap[g]? = some (.cells cur.toArray t (0, 0)) → o + vs.length ≤ cur.length →
    (w.setCells g o vs).heap[g]? = some (.cells (cur.take o ++ (vs ++ cur.drop (o + vs.length))).toArray t (0, 0))
  | [], o, w, cur, h, _ => by simpa [World.setCells] using h
  | v :: vs, o, w, cur, h, hl => by
    have h1 := heap_setCell_same w g o _ t v h
    rw [List.setIfInBounds_toArray] at h1
    have := heap_setCells g t vs (o + 1) (w.setCell ⟨g, o, none⟩ v) (cur.set o v) h1 (by simp at hl ⊢; omega)
    rw [World.setCells, this]
    congr 3
    simp only [List.length_cons] at hl
    rw [List.take_set, List.drop_set_of_lt (by omega), List.take_add_one, List.set_append_right _ _ (by simp; omega)]
    simp only [List.length_take, Nat.min_eq_left (by omega : o ≤ cur.length), Nat.sub_self, List.length_cons]
    have : cur[o]? = some cur[o] := List.getElem?_eq_getElem (by omega)
    rw [this]
    simp [Nat.add_assoc, Nat.add_comm 1]
theorem grownBy_setCells {w : World} {row : Nat} : ∀ (vs : List Value) (o : Nat) {w' : World}, w.grownBy w' (some row) → w.grownBy (w'.setCells row o vs) (some row)
  | [], _, _, h => h
  | v :: vs, o, _, h => grownBy_setCells vs (o + 1) ⟨h.os, h.tape, h.output, by simpa [World.setCell] using h.size, fun k hk hne => by rw [Below.heap_setCell _ _ _ _ (fun e => hne (by rw [e]))]; exact h.block k hk hne⟩
theorem grownBy_set {w w' : World} {row : Nat} (h : w.grownBy w' (some row)) (i : Nat) (v : Value) : w.grownBy (w'.setCell ⟨row, i, none⟩ v) (some row) :=
  ⟨h.os, h.tape, h.output, by simpa [World.setCell] using h.size, fun k hk hne => by rw [Below.heap_setCell _ _ _ _ (fun e => hne (by rw [e]))]; exact h.block k hk hne⟩
theorem grownBy_trans {w w' w'' : World} {row : Option Nat} (h : w.grownBy w' row) (h' : w'.grownBy w'' row) : w.grownBy w'' row :=
  ⟨h'.os.trans h.os, h'.tape.trans h.tape, h'.output.trans h.output, Nat.le_trans h.size h'.size, fun k hk hne => (h'.block k (Nat.lt_of_lt_of_le hk h.size) hne).trans (h.block k hk hne)⟩
theorem rangeAt_below {w w' : World} {b o : Nat} {cs : List Value} (hb : Below w.heap.size w w') (h : w.rangeAt b o cs) : w'.rangeAt b o cs := fun j v hv => by
  have h1 := h j v hv
  rw [← h1]
  exact hb.cell (World.block_lt_of_cell? w _ h1)
theorem grownBy_refl (w : World) (row : Option Nat) : w.grownBy w row := ⟨rfl, rfl, rfl, Nat.le_refl _, fun _ _ _ => rfl⟩
theorem grownBy_drewN {w w' : World} {row : Option Nat} (h : w.grownBy w' row) (n : Nat) : w.grownBy (w'.drewN n) row := ⟨h.os, h.tape, h.output, h.size, h.block⟩
theorem grownBy_below {w w' : World} {row : Option Nat} (h : Below w.heap.size w w') : w.grownBy w' row := ⟨h.os, h.tape, h.output, h.size, fun k hk _ => h.block k hk⟩
end Go.Proofs.Ytigfiopmochliaa
/- The plain mathematics of parts in bytes. -/
namespace Go.Proofs.Ytigfiopmochliaa.C8
open Go.RowKit
/-- Bytes as a string. -/
def strB (l : List Nat) : ByteArray := (l.map (fun (n : Nat) => (n : Int))).foldl (fun r n => r.push (UInt8.ofNat n.toNat)) ByteArray.empty
theorem strB_go (l : List Nat) (acc : ByteArray) : ((l.map (fun (n : Nat) => (n : Int))).foldl (fun r n => r.push (UInt8.ofNat n.toNat)) acc).data.toList = acc.data.toList ++ l.map UInt8.ofNat := by
  induction l generalizing acc with
  | nil => simp
  | cons x r ih =>
    simp only [List.map_cons, List.foldl_cons]
    rw [ih]
    simp
theorem strB_list (l : List Nat) : (strB l).data.toList = l.map UInt8.ofNat := by
  unfold strB
  rw [strB_go]
  rfl
theorem strB_size (l : List Nat) : (strB l).size = l.length := by
  rw [← ByteArray.size_data, ← Array.length_toList, strB_list, List.length_map]
theorem ofNat_inj {x y : Nat} (hx : x < 256) (hy : y < 256) (h : UInt8.ofNat x = UInt8.ofNat y) : x = y := by
  have := congrArg UInt8.toNat h
  simpa [Nat.mod_eq_of_lt hx, Nat.mod_eq_of_lt hy] using this
theorem strB_inj {l m : List Nat} (hl : ∀ x ∈ l, x < 256) (hm : ∀ x ∈ m, x < 256) (h : strB l = strB m) : l = m := by
  have h1 : l.map UInt8.ofNat = m.map UInt8.ofNat := by rw [← strB_list, ← strB_list, h]
  clear h
  induction l generalizing m with
  | nil => cases m with
    | nil => rfl
    | cons y s => simp at h1
  | cons x r ih => cases m with
    | nil => simp at h1
    | cons y s =>
      simp only [List.map_cons, List.cons.injEq] at h1
      rw [ofNat_inj (hl x (by simp)) (hm y (by simp)) h1.1, ih (fun z hz => hl z (by simp [hz])) (fun z hz => hm z (by simp [hz])) h1.2]
theorem strB_beqL {l m : List Nat} (hl : ∀ x ∈ l, x < 256) (hm : ∀ x ∈ m, x < 256) : ((strB l).toList == (strB m).toList) = decide (l = m) := by
  by_cases h : l = m
  · simp [h]
  · rw [decide_eq_false h, beq_eq_false_iff_ne]
    intro e
    rw [ByteArray.toList_eq, ByteArray.toList_eq] at e
    apply h
    apply strB_inj hl hm
    have : (strB l).data = (strB m).data := Array.toList_inj.1 e
    cases hx : strB l
    cases hy : strB m
    rw [hx, hy] at this
    simp only at this
    rw [this]
theorem strB_beq {l m : List Nat} (hl : ∀ x ∈ l, x < 256) (hm : ∀ x ∈ m, x < 256) : (strB l == strB m) = decide (l = m) := by
  rw [beq_toListBytes, strB_beqL hl hm]
namespace Cd
/-- A number in so many bytes, the highest first. -/
def be : Nat → Nat → List Nat
  | 0, _ => []
  | k + 1, n => be k (n / 256) ++ [n % 256]
def val (l : List Nat) : Nat := l.foldl (fun a x => a * 256 + x) 0
theorem be_length : ∀ k n, (be k n).length = k
  | 0, _ => rfl
  | k + 1, n => by simp [be, be_length k]
theorem be_lt : ∀ k n, ∀ x ∈ be k n, x < 256
  | 0, _, x, h => by simp [be] at h
  | k + 1, n, x, h => by
    simp only [be, List.mem_append, List.mem_singleton] at h
    rcases h with h | rfl
    · exact be_lt k _ x h
    · exact Nat.mod_lt _ (by decide)
theorem val_snoc (l : List Nat) (x : Nat) : val (l ++ [x]) = val l * 256 + x := by simp [val, List.foldl_append]
theorem val_be : ∀ k n, val (be k n) = n % 256 ^ k
  | 0, n => by simp [be, val, Nat.mod_one]
  | k + 1, n => by
    rw [be, val_snoc, val_be k, Nat.pow_succ, Nat.mul_comm (256 ^ k) 256, Nat.mod_mul]
    omega
theorem val_lt (l : List Nat) (h : ∀ x ∈ l, x < 256) : val l < 256 ^ l.length := by
  have key : ∀ (l : List Nat) (a : Nat), (∀ x ∈ l, x < 256) → l.foldl (fun a x => a * 256 + x) a < (a + 1) * 256 ^ l.length := by
    intro l
    induction l with
    | nil => intro a _; simp
    | cons x r ih =>
      intro a hx
      have h1 := ih (a * 256 + x) (fun y hy => hx y (by simp [hy]))
      have h2 := hx x (by simp)
      simp only [List.foldl_cons, List.length_cons]
      refine Nat.lt_of_lt_of_le h1 ?_
      rw [Nat.pow_succ, Nat.mul_comm (256 ^ r.length) 256, ← Nat.mul_assoc]
      exact Nat.mul_le_mul_right _ (by omega)
  simpa [val] using key l 0 h
theorem be_inj {k m n : Nat} (hm : m < 256 ^ k) (hn : n < 256 ^ k) (h : be k m = be k n) : m = n := by
  have := congrArg val h
  rwa [val_be, val_be, Nat.mod_eq_of_lt hm, Nat.mod_eq_of_lt hn] at this
end Cd
theorem be_nth : ∀ (k i n : Nat), i < k → Sp.nth (Cd.be k n) i = n / 256 ^ (k - 1 - i) % 256
  | 0, _, _, h => by omega
  | k + 1, i, n, h => by
    rw [Cd.be]
    by_cases hi : i < k
    · rw [Sp.nth_append_left (by rw [Cd.be_length]; exact hi), be_nth k i (n / 256) hi, Nat.div_div_eq_div_mul, Nat.mul_comm, ← Nat.pow_succ]
      congr 3
      omega
    · obtain rfl : i = k := by omega
      have := Sp.nth_append_right (l := Cd.be i (n / 256)) (m := [n % 256]) 0
      rw [Cd.be_length, Nat.add_zero] at this
      rw [this]
      simp [Sp.nth]
theorem take_succ_nth {l : List Nat} {i : Nat} (h : i < l.length) : l.take (i + 1) = l.take i ++ [Sp.nth l i] := by
  rw [List.take_succ_eq_append_getElem h]
  simp [Sp.nth, h]
theorem shr_byte {m i x : Nat} (h : x = m / 256 ^ i % 256) : (m : Int) / 2 ^ (8 * i) % 256 = (x : Int) := by
  subst h
  have e : (256 : Nat) ^ i = 2 ^ (8 * i) := by rw [show (256 : Nat) = 2 ^ 8 from rfl, ← Nat.pow_mul]
  rw [e, Int.natCast_emod, Int.natCast_ediv, Int.natCast_pow]
  rfl
theorem or_byte {a x : Nat} (ha : a < 72057594037927936) (hx : x < 256) : bits BinOp.or .u64 ((a * 256 : Nat) : Int) (x : Int) = ((a * 256 + x : Nat) : Int) := by
  rw [u64_or_nat _ _ (by omega) (by omega)]
  congr 1
  rw [Nat.mul_comm]
  exact (Nat.two_pow_add_eq_or_of_lt (i := 8) hx a).symm
theorem val_take {l : List Nat} {k : Nat} (h : k < l.length) : Cd.val (l.take (k + 1)) = Cd.val (l.take k) * 256 + Sp.nth l k := by
  rw [take_succ_nth h, Cd.val_snoc]
/-- A part: a number, or a text. -/
structure Pt where
  isText : Bool
  n : Int
  text : List Nat
namespace Cd
/-- A part's error, 0 where it is right. -/
def wrong (p : Pt) : Nat := if p.isText = true then (if 4096 < p.text.length then 11 else 0) else if p.n < 0 ∨ 1099511627776 < p.n then 12 else 0
/-- A part's bytes. -/
def one (p : Pt) : List Nat := if p.isText = true then be 2 p.text.length ++ p.text else be 6 p.n.toNat
/-- The first wrong one's error. -/
def err : List Pt → Nat
  | [] => 0
  | p :: r => if wrong p = 0 then err r else wrong p
def enc : List Pt → List Nat
  | [] => []
  | p :: r => one p ++ enc r
theorem enc_append (a b : List Pt) : enc (a ++ b) = enc a ++ enc b := by
  induction a with
  | nil => rfl
  | cons p r ih => simp [enc, ih]
theorem enc_snoc (a : List Pt) (p : Pt) : enc (a ++ [p]) = enc a ++ one p := by simp [enc_append, enc]
theorem err_append {a : List Pt} (h : err a = 0) (b : List Pt) : err (a ++ b) = err b := by
  induction a with
  | nil => rfl
  | cons p r ih =>
    simp only [err] at h
    split at h
    · rename_i hw
      simp only [List.cons_append, err, hw, if_true]
      exact ih h
    · contradiction
theorem err_take {l : List Pt} {j : Nat} (h0 : err (l.take j) = 0) (hj : j < l.length) (hw : wrong l[j] ≠ 0) : err l = wrong l[j] := by
  conv => lhs; rw [← List.take_append_drop j l]
  rw [err_append h0, List.drop_eq_getElem_cons hj, err, if_neg hw]
theorem err_take_succ {l : List Pt} {j : Nat} (h0 : err (l.take j) = 0) (hj : j < l.length) (hw : wrong l[j] = 0) : err (l.take (j + 1)) = 0 := by
  rw [List.take_succ_eq_append_getElem hj, err_append h0, err, if_pos hw, err]
theorem wrong_of_err {l : List Pt} (h : err l = 0) : ∀ p ∈ l, wrong p = 0 := by
  induction l with
  | nil => intro p hp; cases hp
  | cons q r ih =>
    simp only [err] at h
    split at h
    · rename_i hw
      intro p hp
      rcases List.mem_cons.1 hp with rfl | hp
      · exact hw
      · exact ih h p hp
    · contradiction
theorem one_length_le {p : Pt} (h : wrong p = 0) : (one p).length ≤ 4098 := by
  unfold wrong at h
  unfold one
  split
  · rename_i ht
    rw [if_pos ht] at h
    split at h
    · contradiction
    · rw [List.length_append, be_length]; omega
  · rw [be_length]; omega
theorem enc_length_le {l : List Pt} (h : ∀ p ∈ l, wrong p = 0) : (enc l).length ≤ 4098 * l.length := by
  induction l with
  | nil => simp [enc]
  | cons p r ih =>
    have h1 := one_length_le (h p (by simp))
    have h2 := ih (fun q hq => h q (by simp [hq]))
    simp only [enc, List.length_append, List.length_cons]
    omega
theorem one_lt {p : Pt} (h : ∀ x ∈ p.text, x < 256) : ∀ x ∈ one p, x < 256 := fun x hx => by
  unfold one at hx
  split at hx
  · rcases List.mem_append.1 hx with hx | hx
    · exact be_lt _ _ x hx
    · exact h x hx
  · exact be_lt _ _ x hx
theorem enc_lt {l : List Pt} (h : ∀ p ∈ l, ∀ x ∈ p.text, x < 256) : ∀ x ∈ enc l, x < 256 := by
  induction l with
  | nil => intro x hx; cases hx
  | cons p r ih =>
    intro x hx
    rcases List.mem_append.1 hx with hx | hx
    · exact one_lt (h p (by simp)) x hx
    · exact ih (fun q hq => h q (by simp [hq])) x hx
end Cd
end Go.Proofs.Ytigfiopmochliaa.C8
/- A region that draws its order, by what each of its operations leaves behind: each fact is kept by every later step, so no order need be walked. -/
namespace Go.Proofs.Ytigfiopmochliaa
open Go.RowKit
/-- Every operation that binds lies ahead; each temporary is set once, within the frame. -/
def regionOk (ops : Array Oper) (n : Nat) : Bool :=
  (List.range ops.size).all fun i => match ops[i]? with
    | none => true
    | some o => (o.after.all fun e => !Region.binds .any e || decide (e.on < i)) && (match o.dst with
      | none => true
      | some d => decide (d < n) && (List.range ops.size).all fun j => decide (j = i) || !((ops[j]?).bind (·.dst) == some d))
section
variable {P : Program} {ops : Array Oper} {Q : Exit → Act → World → Prop}
/-- What stands behind some of the operations. -/
structure RInv (ops : Array Oper) (V : Nat → Value → World → Prop) (G : World → World → Prop) (a : Act) (w : World) (a' : Act) (w' : World) : Prop where
  size : a'.tmps.size = a.tmps.size
  defers : a'.defers = a.defers
  grow : G w w'
  old : ∀ t, (∀ i : Nat, (ops[i]?).bind (·.dst) ≠ some t) → a'.tmps.getD t undef = a.tmps.getD t undef
theorem replicate_false (m j : Nat) : (Array.replicate m false).getD j false = false := by
  rcases Nat.lt_or_ge j m with h | h <;> simp [h]
theorem getD_put (a : Act) (dst : Option Tmp) (v : Value) (t : Tmp) (h : dst ≠ some t) : (a.put dst v).tmps.getD t undef = a.tmps.getD t undef := by
  cases dst with
  | none => rfl
  | some d =>
    have hd : d ≠ t := fun e => h (by rw [e])
    simp [Act.put, hd]
theorem getD_put_same (a : Act) (d : Tmp) (v : Value) (h : d < a.tmps.size) : (a.put (some d) v).tmps.getD d undef = v := by
  simp [Act.put, h]
theorem size_put (a : Act) (dst : Option Tmp) (v : Value) : (a.put dst v).tmps.size = a.tmps.size := by cases dst <;> simp [Act.put]
theorem defers_put (a : Act) (dst : Option Tmp) (v : Value) : (a.put dst v).defers = a.defers := by cases dst <;> rfl
theorem regionOk_spec {n : Nat} (h : regionOk ops n = true) {i : Nat} {o : Oper} (hi : ops[i]? = some o) :
    (∀ e ∈ o.after, Region.binds .any e = true → e.on < i) ∧ ∀ d, o.dst = some d → d < n ∧ ∀ j : Nat, j ≠ i → (ops[j]?).bind (·.dst) ≠ some d := by
  have hlt : i < ops.size := (Array.getElem?_eq_some_iff.1 hi).1
  have h1 := List.all_eq_true.1 h i (List.mem_range.2 hlt)
  simp only [hi, Bool.and_eq_true] at h1
  refine ⟨fun e he hb => ?_, fun d hd => ?_⟩
  · have := Array.all_eq_true_iff_forall_mem.1 h1.1 e he
    simpa [hb] using this
  · have h2 := h1.2
    simp only [hd, Bool.and_eq_true, decide_eq_true_eq] at h2
    refine ⟨h2.1, fun j hj e => ?_⟩
    have hjlt : j < ops.size := by
      cases ho : ops[j]? with
      | none => simp [ho] at e
      | some oj => exact (Array.getElem?_eq_some_iff.1 ho).1
    have := List.all_eq_true.1 h2.2 j (List.mem_range.2 hjlt)
    simp [hj, e] at this
theorem wp_region_inv {id : Nat} {a : Act} {w : World} (V : Nat → Value → World → Prop) (G : World → World → Prop) (hm : P.follows .mixedOrders = true)
    (hG0 : G w { w with drawn := w.drawn + 1 }) (hGt : ∀ x y z, G x y → G y z → G x z) (hV : ∀ i v x y, V i v x → G x y → V i v y)
    (hok : regionOk ops a.tmps.size = true)
    (hstep : ∀ i o a' w', ops[i]? = some o → RInv ops V G a w a' w' →
      (∀ e ∈ o.after, Region.binds .any e = true → ∀ d, (ops[e.on]?).bind (·.dst) = some d → V e.on (a'.tmps.getD d undef) w') →
      wpOp P ops Q i (fun a'' w'' => G w' w'' ∧ ∃ v, a'' = a'.put o.dst v ∧ V i v w'') a' w')
    (hend : ∀ a' w', RInv ops V G a w a' w' → (∀ i d, (ops[i]?).bind (·.dst) = some d → V i (a'.tmps.getD d undef) w') → Q .normal a' w') : (Code.region id ops true).wp P Q a w := by
  refine wp_region_any hm ?_
  have key : ∀ (fuel : Nat) (listed : Array Bool) (a' : Act) (w' : World), listed.size = ops.size → listed.toList.count false ≤ fuel → RInv ops V G a w a' w' →
      (∀ i d, listed.getD i false = true → (ops[i]?).bind (·.dst) = some d → V i (a'.tmps.getD d undef) w') → wpAny P .any ops Q fuel listed a' w' := by
    intro fuel
    induction fuel with
    | zero =>
      intro listed a' w' hs hc inv hd
      have hnone : ∀ i, i < ops.size → listed.getD i false = true := fun i hi => by
        have h0 : false ∉ listed.toList := List.count_eq_zero.1 (Nat.le_zero.1 hc)
        have hi' : i < listed.size := by omega
        cases hb : listed[i] with
        | true => simp [hi', hb]
        | false => exact absurd (Array.getElem_mem_toList hi') (by rw [hb]; exact h0)
      refine ⟨?_, hend a' w' inv (fun i d hid => hd i d (hnone i ?_) hid)⟩
      · apply List.eq_nil_iff_forall_not_mem.2
        intro j hj
        obtain ⟨h1, o, ho, _⟩ := mem_ready.1 hj
        have := hnone j (Array.getElem?_eq_some_iff.1 ho).1
        have hj' : j < listed.size := by have := (Array.getElem?_eq_some_iff.1 ho).1; omega
        simp [hj'] at h1 this
        rw [h1] at this
        cases this
      · cases ho : ops[i]? with
        | none => simp [ho] at hid
        | some o => exact (Array.getElem?_eq_some_iff.1 ho).1
    | succ fuel ih =>
      intro listed a' w' hs hc inv hd
      refine ⟨fun hnil => ?_, fun i hi => ?_⟩
      · have hall : ∀ n i, i < n → i < ops.size → listed.getD i false = true := by
          intro n
          induction n with
          | zero => intro i hi; omega
          | succ n ihn =>
            intro i hi hlt
            have hil : i < listed.size := by omega
            cases hb : listed[i] with
            | true => simp [hil, hb]
            | false =>
              exfalso
              obtain ⟨o, ho⟩ : ∃ o, ops[i]? = some o := ⟨_, Array.getElem?_eq_getElem hlt⟩
              have : i ∈ Region.ready .any ops listed := mem_ready.2 ⟨by simp [hil, hb], o, ho, fun e he hbd => by
                have h3 := (regionOk_spec hok ho).1 e he hbd
                exact ihn e.on (by omega) (by omega)⟩
              rw [hnil] at this
              cases this
        refine hend a' w' inv (fun i d hid => hd i d (hall (i + 1) i (by omega) ?_) hid)
        cases ho : ops[i]? with
        | none => simp [ho] at hid
        | some o => exact (Array.getElem?_eq_some_iff.1 ho).1
      · obtain ⟨hun, o, ho, hall⟩ := mem_ready.1 hi
        have hlt : i < ops.size := (Array.getElem?_eq_some_iff.1 ho).1
        have hil : i < listed.size := by omega
        refine wpOp_mono (fun a'' w'' hk => ?_) (hstep i o a' w' ho inv (fun e he hb d hed => hd e.on d (hall e he hb) hed))
        obtain ⟨hg, v, rfl, hv⟩ := hk
        refine ih _ _ _ (by simpa using hs) ?_ ⟨by rw [size_put]; exact inv.size, by rw [defers_put]; exact inv.defers, hGt _ _ _ inv.grow hg, fun t ht => ?_⟩ (fun j d hj hjd => ?_)
        · have hf : listed.toList[i]? = some false := by
            simp [hil] at hun ⊢
            exact hun
          rw [Array.toList_setIfInBounds]
          have hcnt := List.count_set (l := listed.toList) (i := i) (a := true) (b := false) (by simpa using hil)
          have hget : listed.toList[i]'(by simpa using hil) = false := (List.getElem?_eq_some_iff.1 hf).2
          rw [hcnt, hget, if_pos (by rfl), if_neg (by decide)]
          omega
        · rw [getD_put _ _ _ _ (fun e => ht i (by rw [ho]; exact e))]
          exact inv.old t ht
        · by_cases hji : j = i
          · subst hji
            have hod : o.dst = some d := by simpa [ho] using hjd
            rw [hod, getD_put_same _ _ _ (by rw [inv.size]; exact ((regionOk_spec hok ho).2 d hod).1)]
            exact hv
          · rw [getD_put _ _ _ _ (fun e => ((regionOk_spec hok ho).2 d e).2 j hji hjd)]
            rw [getD_set_ne false (Ne.symm hji)] at hj
            exact hV _ _ _ _ (hd j d hj hjd) hg
  refine key ops.size _ a _ (by simp) ?_ ⟨rfl, rfl, hG0, fun _ _ => rfl⟩ (fun i d hi _ => by rw [replicate_false] at hi; cases hi)
  exact Nat.le_trans List.count_le_length (by simp)
end
end Go.Proofs.Ytigfiopmochliaa
/- Bytes that are read; what a call may have turned; conversions and appends, as the walks of this layer want them. -/
namespace Go.Proofs.Ytigfiopmochliaa.C8
open Go.RowKit
/-- Just these blocks of the old ones may have turned. -/
structure Only (bs : List Nat) (w w' : World) : Prop where
  os : w'.os = w.os
  tape : w'.tape = w.tape
  output : w'.output = w.output
  size : w.heap.size ≤ w'.heap.size
  block : ∀ k, k < w.heap.size → k ∉ bs → w'.heap[k]? = w.heap[k]?
section
variable {w w' w'' : World} {bs cs : List Nat}
theorem Only.refl (bs : List Nat) (w : World) : Only bs w w := ⟨rfl, rfl, rfl, Nat.le_refl _, fun _ _ _ => rfl⟩
theorem Only.trans (h : Only bs w w') (k : Only bs w' w'') : Only bs w w'' :=
  ⟨k.os.trans h.os, k.tape.trans h.tape, k.output.trans h.output, Nat.le_trans h.size k.size, fun i hi hn => (k.block i (Nat.lt_of_lt_of_le hi h.size) hn).trans (h.block i hi hn)⟩
theorem Only.more (h : Only bs w w') (hs : ∀ x ∈ bs, x ∈ cs) : Only cs w w' := ⟨h.os, h.tape, h.output, h.size, fun k hk hn => h.block k hk (fun e => hn (hs k e))⟩
theorem Only.of_below (h : Below w.heap.size w w') (bs : List Nat) : Only bs w w' := ⟨h.os, h.tape, h.output, h.size, fun k hk _ => h.block k hk⟩
theorem Only.below {B : Nat} (h : Only bs w w') (hB : B ≤ w.heap.size) (hs : ∀ x ∈ bs, B ≤ x) : Below B w w' :=
  ⟨h.os, h.tape, h.output, h.size, fun k hk => h.block k (Nat.lt_of_lt_of_le hk hB) (fun e => by have := hs k e; omega)⟩
theorem Only.of_grown {row : Option Nat} (h : w.grownBy w' row) (hs : ∀ x, row = some x → x ∈ bs) : Only bs w w' :=
  ⟨h.os, h.tape, h.output, h.size, fun k hk hn => h.block k hk (fun e => hn (hs k e.symm))⟩
theorem Only.drewN (n : Nat) (w : World) (bs : List Nat) : Only bs w (w.drewN n) := ⟨rfl, rfl, rfl, Nat.le_refl _, fun _ _ _ => rfl⟩
theorem Only.setCell (w : World) (a : Addr) (v : Value) (h : a.block ∈ bs) : Only bs w (w.setCell a v) :=
  ⟨rfl, rfl, rfl, by simp [World.setCell], fun k _ hn => Below.heap_setCell _ _ _ _ (fun e => hn (by rw [e]; exact h))⟩
theorem below_drewN (n : Nat) (w : World) (B : Nat) : Below B w (w.drewN n) := ⟨rfl, rfl, rfl, Nat.le_refl _, fun _ _ => rfl⟩
end
/-- A slice that holds these bytes: nil, or empty anywhere, or a row; its block, if it has one, is none of those. -/
def Src (w : World) (v : Value) (l : List Nat) : Prop :=
  (∀ x ∈ l, x < 256) ∧ ((v = .slice none 0 0 ∧ l = []) ∨ (∃ ad c, v = .slice (some ad) 0 c ∧ l = []) ∨ ∃ b o c, v = .slice (some ⟨b, o, none⟩) l.length c ∧ l.length ≤ c ∧ w.rangeAt b o (ints .u8 l))
/-- The slice's block is none of these. -/
def Off (v : Value) (bs : List Nat) : Prop := ∀ b, v.ownBlock = some b → b ∉ bs
section
variable {w w' : World} {v : Value} {l : List Nat} {bs : List Nat}
theorem Src.small (h : Src w v l) : ∀ x ∈ l, x < 256 := h.1
theorem Src.slice (h : Src w v l) : ∃ p c, v = .slice p l.length c ∧ l.length ≤ c := by
  obtain ⟨hs, ⟨rfl, rfl⟩ | ⟨ad, c', rfl, rfl⟩ | ⟨b, o, c', rfl, hc, hr⟩⟩ := h
  · exact ⟨_, _, rfl, Nat.le_refl _⟩
  · exact ⟨_, _, rfl, Nat.zero_le _⟩
  · exact ⟨_, _, rfl, hc⟩
theorem Src.below (h : Src w v l) (hb : Below w.heap.size w w') : Src w' v l := by
  obtain ⟨hs, h1 | h1 | ⟨b, o, c', rfl, hc, hr⟩⟩ := h
  · exact ⟨hs, .inl h1⟩
  · exact ⟨hs, .inr (.inl h1)⟩
  · exact ⟨hs, .inr (.inr ⟨b, o, c', rfl, hc, rangeAt_below hb hr⟩)⟩
theorem range_kept {b o : Nat} {cs : List Value} (h : w.rangeAt b o cs) (hk : w'.heap[b]? = w.heap[b]?) : w'.rangeAt b o cs := fun j u hu => by
  rw [World.cell?_of_block (a := ⟨b, o + j, none⟩) hk]
  exact h j u hu
theorem range_lt {b o : Nat} {cs : List Value} (h : w.rangeAt b o cs) (h0 : cs ≠ []) : b < w.heap.size := by
  cases cs with
  | nil => exact absurd rfl h0
  | cons x r => exact World.block_lt_of_cell? w _ (h 0 x rfl)
theorem Src.only (h : Src w v l) (ho : Only bs w w') (hv : Off v bs) : Src w' v l := by
  obtain ⟨hs, h1 | h1 | ⟨b, o, c', rfl, hc, hr⟩⟩ := h
  · exact ⟨hs, .inl h1⟩
  · exact ⟨hs, .inr (.inl h1)⟩
  · by_cases h0 : l = []
    · subst h0
      exact ⟨hs, .inr (.inl ⟨_, _, rfl, rfl⟩)⟩
    · refine ⟨hs, .inr (.inr ⟨b, o, c', rfl, hc, range_kept hr (ho.block b (range_lt hr ?_) (hv b rfl))⟩)⟩
      intro e
      apply h0
      have := congrArg List.length e
      rw [ints_length] at this
      exact List.eq_nil_of_length_eq_zero this
theorem Off.more {cs : List Nat} (h : Off v bs) (hs : ∀ x ∈ cs, x ∈ bs) : Off v cs := fun b hb e => h b hb (hs b e)
theorem Off.none (bs : List Nat) (n c : Nat) : Off (.slice none n c) bs := fun b hb => by cases hb
theorem Off.at {ad : Addr} {n c : Nat} (h : ad.block ∉ bs) : Off (.slice (some ad) n c) bs := fun _ hb => by cases hb; exact h
theorem Src.nil (w : World) : Src w (.slice none 0 0) [] := ⟨fun x hx => by simp at hx, .inl ⟨rfl, rfl⟩⟩
theorem Src.row {b o c : Nat} (hs : ∀ x ∈ l, x < 256) (hc : l.length ≤ c) (hr : w.rangeAt b o (ints .u8 l)) {n : Nat} (hn : l.length = n) : Src w (.slice (some ⟨b, o, none⟩) n c) l := by
  subst hn
  exact ⟨hs, .inr (.inr ⟨b, o, c, rfl, hc, hr⟩)⟩
theorem own_slice {base e size : Nat} {n : Nat} {xs : List Value} (h : w.ownsRow base e size v n xs) : ∃ q c, v = .slice q n c := by
  obtain ⟨_, ⟨rfl, rfl⟩ | ⟨g, cap, cur, rfl, _⟩⟩ := h
  · exact ⟨none, 0, rfl⟩
  · exact ⟨_, cap, rfl⟩
theorem own_none (w : World) (base e size : Nat) : w.ownsRow base e size (.slice none 0 0) 0 [] := ⟨by simp, .inl ⟨rfl, rfl⟩⟩
theorem own_cell {base : Nat} {k : IntKind} {e n : Nat} (h : w.ownsRow base e 1 v n (ints k l)) (hn : 0 < n) : ∃ g c, v = .slice (some ⟨g, 0, none⟩) n c ∧ base ≤ g ∧ g < w.heap.size ∧ n ≤ c ∧ w.rangeAt g 0 (ints k l) := by
  obtain ⟨hl, ⟨rfl, h0⟩ | ⟨g, cap, cur, rfl, hg, hh, hn, hm, hc, ht⟩⟩ := h
  · omega
  · refine ⟨g, cap, rfl, hg, (Array.getElem?_eq_some_iff.1 hh).1, hn, fun j u hu => ?_⟩
    rw [cell_of_row _ _ _ _ _ _ hh, Nat.zero_add]
    have hj := (List.getElem?_eq_some_iff.1 hu).1
    rw [← ht, Nat.mul_one, List.getElem?_take_of_lt (by rw [hl] at hj; omega)] at hu
    simpa using hu
theorem Src.own {base n : Nat} (hs : ∀ x ∈ l, x < 256) (h : w.ownsRow base 5 1 v n (ints .u8 l)) : Src w v l := by
  by_cases h0 : n = 0
  · subst h0
    have hl : l = [] := by
      have := h.1
      rw [ints_length] at this
      exact List.eq_nil_of_length_eq_zero (by omega)
    subst hl
    rcases h.2 with ⟨rfl, _⟩ | ⟨g, cap, cur, rfl, _⟩
    · exact ⟨hs, .inl ⟨rfl, rfl⟩⟩
    · exact ⟨hs, .inr (.inl ⟨_, _, rfl, rfl⟩)⟩
  · have hl : l.length = n := by
      have := h.1
      rw [ints_length] at this
      omega
    obtain ⟨g, c, rfl, _, _, hc, hr⟩ := own_cell h (by omega)
    exact Src.row hs (by omega) hr hl
theorem own_off {base e size n : Nat} {xs : List Value} (h : w.ownsRow base e size v n xs) (hb : ∀ x ∈ bs, x < base) : Off v bs := by
  obtain ⟨_, ⟨rfl, _⟩ | ⟨g, cap, cur, rfl, hg, _⟩⟩ := h
  · exact Off.none _ _ _
  · exact Off.at (ad := ⟨g, 0, none⟩) (fun e => by have := hb g e; omega)
theorem own_only {base e size n : Nat} {xs : List Value} (h : w.ownsRow base e size v n xs) (ho : Only bs w w') (hv : Off v bs) : w'.ownsRow base e size v n xs := by
  obtain ⟨hl, h1 | ⟨g, cap, cur, rfl, hg, hh, hr⟩⟩ := h
  · exact ⟨hl, .inl h1⟩
  · exact ⟨hl, .inr ⟨g, cap, cur, rfl, hg, (ho.block g (Array.getElem?_eq_some_iff.1 hh).1 (hv g rfl)).trans hh, hr⟩⟩
/-- The bytes, as a string. -/
theorem conv_src (h : Src w v l) : (convert 23 9 v).run Try.prog w = .ok (.string (strB l)) w := by
  have key : ∀ ad c, (∀ j u, (ints .u8 l)[j]? = some u → w.cell? (ad.add j) = some u) → (convert 23 9 (.slice (some ad) l.length c)).run Try.prog w = .ok (.string (strB l)) w := by
    intro ad c hc
    rw [run_convert_bytes_string w 23 9 5 _ _ _ Try.underlying23 Try.underlying5 Try.underlying9]
    have hl : (loadCells ad (ints .u8 l).length).run Try.prog w = .ok (ints .u8 l).toArray w := run_loadCells_list (P := Try.prog) w ad (ints .u8 l) hc
    rw [ints_length] at hl
    have e : (ints .u8 l) = (l.map (fun (n : Nat) => (n : Int))).map (Value.int .u8) := by simp [ints]
    rw [e] at hl
    exact run_bytesToString w ad l.length c _ hl
  obtain ⟨hs, ⟨rfl, rfl⟩ | ⟨ad, c, rfl, rfl⟩ | ⟨b, o, c, rfl, hc, hr⟩⟩ := h
  · rw [run_convert_bytes_string w 23 9 5 _ _ _ Try.underlying23 Try.underlying5 Try.underlying9]
    simp [strB, Conv.bytesToString]
  · exact key ad c (fun j u hu => by simp [ints] at hu)
  · exact key ⟨b, o, none⟩ c (fun j u hu => by rw [Addr.add_mid]; exact hr j u hu)
end
theorem info5e : ∃ i, Try.prog.info? 5 = some i ∧ i.size = 1 ∧ i.bytes = 1 ∧ i.zero = some (.int .u8 0) := info_of (by kernel_rfl)
theorem below_append {base e size n : Nat} {w w' : World} {v : Value} {xs : List Value} (hown : w.ownsRow base e size v n xs) (hg : w.grownBy w' v.ownBlock) (hbase : base ≤ w.heap.size) : Below base w w' :=
  (Below.refl base w).grown hg hbase (fun k hk => (hown.lt k hk).1)
theorem law_append_src {ops : Array Oper} {rest : List Oper} {dst : Option Tmp} {T : TypeId} {pos : String} {after : Array Edge} {a : Act} {w : World} {Q : Exit → Act → World → Prop} {so xo : Operand}
    (base : Nat) (v : Value) (n : Nat) (l : List Nat) (sv : Value) (news : List Nat) (hs : a.eval so = v) (hx : a.eval xo = sv) (hown : w.ownsRow base 5 1 v n (ints .u8 l)) (hsv : Src w sv news)
    (hn : n + news.length ≤ 100000) (hbase : base ≤ w.heap.size)
    (h : ∀ v' w', w'.ownsRow base 5 1 v' (n + news.length) (ints .u8 (l ++ news)) → w.grownBy w' v.ownBlock → wpList Try.prog ops Q rest (a.put dst v') w') :
    wpList Try.prog ops Q ({ dst := dst, op := .call { callee := .builtin .append, args := #[so, xo], argTypes := #[23, 23] }, type := T, pos := pos, after := after, guard := none } :: rest) a w := by
  obtain ⟨i, hi, hsz, hby, hz⟩ := info5e
  have key : ∀ ad c, sv = .slice (some ad) news.length c → (∀ j u, (ints .u8 news)[j]? = some u → w.cell? (ad.add j) = some u) → wpList Try.prog ops Q ({ dst := dst, op := .call { callee := .builtin .append, args := #[so, xo], argTypes := #[23, 23] }, type := T, pos := pos, after := after, guard := none } :: rest) a w := by
    intro ad c e hc
    subst e
    refine wpList_append_own _ rfl so xo 23 rfl base 5 i _ 1 1 Try.underlying23 hi hz hsz hby rfl (by decide) v n (ints .u8 l) hs hown ad news.length c (ints .u8 news) hx (by rw [ints_length]; omega) hc (fun u hu => by obtain ⟨q, _, rfl⟩ := List.mem_map.1 hu; rfl) (by unfold maxLen; omega) (by omega) hbase (fun v' w' h1 h2 _ => h v' w' (by rw [ints_append]; exact h1) h2)
  rcases hsv with ⟨hb, ⟨rfl, rfl⟩ | ⟨ad, c, rfl, rfl⟩ | ⟨b, o, c, rfl, hc, hr⟩⟩
  · refine wpList_append_own_none rfl so xo 23 rfl base 5 i 1 Try.underlying23 hi v n (ints .u8 l) hs hown hx (h v w ?_ (grownBy_refl _ _))
    simpa [ints] using hown
  · exact key ad c rfl (fun j u hu => by simp [ints] at hu)
  · exact key ⟨b, o, none⟩ c rfl (fun j u hu => by rw [Addr.add_mid]; exact hr j u hu)
theorem one_src (w : World) (x : Nat) (h : x < 256) : Src (w.alloc (.cells #[.int .u8 (x : Int)] 5)) (.slice (some ⟨w.heap.size, 0, none⟩) 1 1) [x] :=
  Src.row (fun y hy => by rw [List.mem_singleton.1 hy]; exact h) (Nat.le_refl 1) (rangeAt_of_row (t := 5) (fr := (0, 0)) (heap_alloc_new w _)) rfl
end Go.Proofs.Ytigfiopmochliaa.C8
/- What an append may turn: the row that it goes on with, and nothing else that is old. -/
namespace Go.Proofs.Ytigfiopmochliaa.C8
open Go.RowKit
/-- From the row v to the row v': of what is old only v's block may have turned; v' lies there, or is new. -/
def Grow (v v' : Value) (w w' : World) : Prop := w.grownBy w' v.ownBlock ∧ (v'.ownBlock = v.ownBlock ∨ ∃ b, v'.ownBlock = some b ∧ w.heap.size ≤ b)
section
variable {v v' v'' : Value} {w w' w'' : World}
theorem Grow.refl (v : Value) (w : World) : Grow v v w w := ⟨grownBy_refl _ _, .inl rfl⟩
theorem Grow.size (h : Grow v v' w w') : w.heap.size ≤ w'.heap.size := h.1.size
theorem Grow.trans (h : Grow v v' w w') (k : Grow v' v'' w' w'') : Grow v v'' w w'' := by
  refine ⟨⟨k.1.os.trans h.1.os, k.1.tape.trans h.1.tape, k.1.output.trans h.1.output, Nat.le_trans h.1.size k.1.size, fun i hi hn => ?_⟩, ?_⟩
  · refine (k.1.block i (Nat.lt_of_lt_of_le hi h.1.size) ?_).trans (h.1.block i hi hn)
    rcases h.2 with e | ⟨b, e, hb⟩
    · rw [e]; exact hn
    · rw [e]
      intro c
      cases c
      omega
  · rcases k.2 with e | ⟨b, e, hb⟩
    · rw [e]; exact h.2
    · exact .inr ⟨b, e, Nat.le_trans h.1.size hb⟩
theorem Grow.alloc (h : Grow v v' w w') (o : Obj) : Grow v v' w (w'.alloc o) :=
  h.trans ⟨grownBy_alloc _ _ _, .inl rfl⟩
theorem Grow.below {base e size n : Nat} {xs : List Value} (h : Grow v v' w w') (hown : w.ownsRow base e size v n xs) (hbase : base ≤ w.heap.size) : Below base w w' := below_append hown h.1 hbase
theorem Src.empty {sv : Value} (h : Src w sv []) (w' : World) : Src w' sv [] := by
  obtain ⟨hs, h1 | h1 | ⟨b, o, c, rfl, hc, _⟩⟩ := h
  · exact ⟨hs, .inl h1⟩
  · exact ⟨hs, .inr (.inl h1)⟩
  · exact ⟨hs, .inr (.inl ⟨_, _, rfl, rfl⟩)⟩
theorem Grow.src {sv : Value} {l : List Nat} (h : Grow v v' w w') (hs : Src w sv l) (ho : l ≠ [] → ∀ b, sv.ownBlock = some b → v.ownBlock ≠ some b) : Src w' sv l := by
  by_cases h0 : l = []
  · subst h0
    exact hs.empty w'
  · refine hs.only (bs := v.ownBlock.toList) (Only.of_grown h.1 (fun x hx => by rw [hx]; simp)) (fun b hb hm => ?_)
    simp only [Option.mem_toList] at hm
    exact ho h0 b hb hm
end
/-- Bytes that lie below a place. -/
def Old (B : Nat) (w : World) (v : Value) (l : List Nat) : Prop := Src w v l ∧ (l ≠ [] → ∀ b, v.ownBlock = some b → b < B)
section
variable {w w' : World} {B : Nat} {v : Value} {l : List Nat}
theorem ints_ne {k : IntKind} (h : l ≠ []) : ints k l ≠ [] := by
  intro e
  apply h
  have := congrArg List.length e
  rw [ints_length] at this
  exact List.eq_nil_of_length_eq_zero this
theorem Old.of (h : Src w v l) : Old w.heap.size w v l := by
  refine ⟨h, fun h0 b hb => ?_⟩
  obtain ⟨_, ⟨rfl, rfl⟩ | ⟨_, _, rfl, rfl⟩ | ⟨g, o, c, rfl, _, hr⟩⟩ := h
  · exact absurd rfl h0
  · exact absurd rfl h0
  · cases hb
    exact range_lt hr (ints_ne h0)
theorem Old.keep (h : Old B w v l) (hb : Below B w w') : Old B w' v l := by
  refine ⟨?_, h.2⟩
  obtain ⟨⟨hs, h1 | h1 | ⟨g, o, c, rfl, hc, hr⟩⟩, h2⟩ := h
  · exact ⟨hs, .inl h1⟩
  · exact ⟨hs, .inr (.inl h1)⟩
  · by_cases h0 : l = []
    · subst h0
      exact ⟨hs, .inr (.inl ⟨_, _, rfl, rfl⟩)⟩
    · exact ⟨hs, .inr (.inr ⟨g, o, c, rfl, hc, range_kept hr (hb.block g (h2 h0 g rfl))⟩)⟩
theorem Old.up {B' : Nat} (h : Old B w v l) (hB : B ≤ B') : Old B' w v l := ⟨h.1, fun h0 b hb => Nat.lt_of_lt_of_le (h.2 h0 b hb) hB⟩
theorem Old.only {bs : List Nat} (h : Old B w v l) (ho : Only bs w w') (hB : B ≤ w.heap.size) (hs : ∀ y ∈ bs, B ≤ y) : Old B w' v l := h.keep (ho.below hB hs)
end
theorem Old.below {w w' : World} {B : Nat} {v : Value} {l : List Nat} (h : Old B w v l) (hb : Below w.heap.size w w') : Old B w' v l := ⟨h.1.below hb, h.2⟩
/-- A row of one's own is none of the blocks below. -/
theorem own_apart {base e size n : Nat} {w : World} {v sv : Value} {xs : List Value} {l : List Nat} (h : w.ownsRow base e size v n xs) (hs : l ≠ [] → ∀ b, sv.ownBlock = some b → b < base) : l ≠ [] → ∀ b, sv.ownBlock = some b → v.ownBlock ≠ some b := fun h0 b hb hv => by
  have h1 := (h.lt b hv).1
  have h2 := hs h0 b hb
  omega
theorem law_append_grow {ops : Array Oper} {rest : List Oper} {dst : Option Tmp} {T : TypeId} {pos : String} {after : Array Edge} {a : Act} {w : World} {Q : Exit → Act → World → Prop} {so xo : Operand}
    (base : Nat) (v : Value) (n : Nat) (l : List Nat) (sv : Value) (news : List Nat) (hs : a.eval so = v) (hx : a.eval xo = sv) (hown : w.ownsRow base 5 1 v n (ints .u8 l)) (hsv : Src w sv news)
    (hn : n + news.length ≤ 1000000) (hbase : base ≤ w.heap.size)
    (h : ∀ v' w', w'.ownsRow base 5 1 v' (n + news.length) (ints .u8 (l ++ news)) → Grow v v' w w' → wpList Try.prog ops Q rest (a.put dst v') w') :
    wpList Try.prog ops Q ({ dst := dst, op := .call { callee := .builtin .append, args := #[so, xo], argTypes := #[23, 23] }, type := T, pos := pos, after := after, guard := none } :: rest) a w := by
  obtain ⟨i, hi, hsz, hby, hz⟩ := info5e
  have key : ∀ ad c, sv = .slice (some ad) news.length c → (∀ j u, (ints .u8 news)[j]? = some u → w.cell? (ad.add j) = some u) → wpList Try.prog ops Q ({ dst := dst, op := .call { callee := .builtin .append, args := #[so, xo], argTypes := #[23, 23] }, type := T, pos := pos, after := after, guard := none } :: rest) a w := by
    intro ad c e hc
    subst e
    refine wpList_append_own_at _ rfl so xo 23 rfl base 5 i _ 1 1 Try.underlying23 hi hz hsz hby rfl (by decide) v n (ints .u8 l) hs hown ad news.length c (ints .u8 news) hx (by rw [ints_length]; omega) hc (fun u hu => by obtain ⟨q, _, rfl⟩ := List.mem_map.1 hu; rfl) (by unfold maxLen; omega) (by omega) hbase (fun v' w' h1 h2 _ h3 => h v' w' (by rw [ints_append]; exact h1) ⟨h2, h3.elim .inl (fun e => .inr ⟨_, e, Nat.le_refl _⟩)⟩)
  rcases hsv with ⟨hb, ⟨rfl, rfl⟩ | ⟨ad, c, rfl, rfl⟩ | ⟨b, o, c, rfl, hc, hr⟩⟩
  · refine wpList_append_own_none rfl so xo 23 rfl base 5 i 1 Try.underlying23 hi v n (ints .u8 l) hs hown hx (h v w ?_ (Grow.refl _ _))
    simpa [ints] using hown
  · exact key ad c rfl (fun j u hu => by simp [ints] at hu)
  · exact key ⟨b, o, none⟩ c rfl (fun j u hu => by rw [Addr.add_mid]; exact hr j u hu)
end Go.Proofs.Ytigfiopmochliaa.C8
/- The contracts of addSplit, addNumber, addText, addPart and Put. -/
namespace Go.Proofs.Ytigfiopmochliaa.C8
open Go.RowKit
end Go.Proofs.Ytigfiopmochliaa.C8
/- The contracts of addPart and Put. -/
namespace Go.Proofs.Ytigfiopmochliaa.C8
open Go.RowKit
theorem str_src (w : World) (l : List Nat) (hl : ∀ x ∈ l, x < 256) : ∃ c w1, (convert 9 23 (.string (strB l))).run Try.prog w = .ok (.slice (some ⟨w.heap.size, 0, none⟩) l.length c) w1 ∧ Src w1 (.slice (some ⟨w.heap.size, 0, none⟩) l.length c) l ∧ Below w.heap.size w w1 := by
  have hr := Lib.run_convert_string_bytes (P := Try.prog) w 9 23 5 (strB l) Try.underlying9 Try.underlying23 Try.underlying5
  refine ⟨grownCap w (strB l).size 0 5, Lib.bytesWorld w 5 (strB l), ?_, ?_, ?_⟩
  · rw [hr, strB_size]
  · refine Src.row hl ?_ ?_ rfl
    · have := grownCap_ge w (strB l).size 0 5
      rw [strB_size] at this ⊢
      exact this
    · intro j u hu
      have hj : j < l.length := by
        have := (List.getElem?_eq_some_iff.1 hu).1
        rwa [ints_length] at this
      rw [Nat.zero_add, Lib.bytesWorld_cell w 5 (strB l) j (by rw [strB_size]; exact hj), strB_list]
      rw [ints_get _ _ _ hj] at hu
      rw [← hu]
      have hx : l[j] < 256 := hl _ (List.getElem_mem hj)
      simp [Sp.nth, hj, Nat.mod_eq_of_lt hx]
  · exact ⟨rfl, rfl, rfl, by rw [Lib.bytesWorld_size]; omega, fun k hk => Lib.bytesWorld_at_old w 5 (strB l) k hk⟩
theorem law_convert {P : Program} {ops : Array Oper} {rest : List Oper} {dst : Option Tmp} {T : TypeId} {pos : String} {after : Array Edge} {a : Act} {w : World} {Q : Exit → Act → World → Prop} {ty tz : TypeId} {x : Operand} (v0 v1 : Value) (w1 : World)
    (hx : a.eval x = v0) (hrun : (convert ty tz v0).run P w = .ok v1 w1) (h : wpList P ops Q rest (a.put dst v1) w1) :
    wpList P ops Q ({ dst := dst, op := .convert ty tz x, type := T, pos := pos, after := after, guard := none } :: rest) a w := by
  refine wpList_plain rfl fun K' hK' => ?_
  unfold Oper.wp
  simp [execOp, hx, hrun, Result.andThen]
  exact hK' _ _ h
theorem stop_convert {P : Program} {ops : Array Oper} {rest : List Oper} {dst : Option Tmp} {T : TypeId} {pos : String} {after : Array Edge} {a : Act} {w : World} {Q : Exit → Act → World → Prop} (ty tz : TypeId) {x : Operand}
    (h : Stop (wpList P ops Q ({ dst := dst, op := .convert ty tz x, type := T, pos := pos, after := after, guard := none } :: rest) a w)) :
    wpList P ops Q ({ dst := dst, op := .convert ty tz x, type := T, pos := pos, after := after, guard := none } :: rest) a w := h
theorem bel_le {w w' : World} {a b : Nat} (h : Below b w w') (hab : a ≤ b) : Below a w w' := ⟨h.os, h.tape, h.output, h.size, fun k hk => h.block k (Nat.lt_of_lt_of_le hk hab)⟩
theorem own_below {base e size n : Nat} {w w' : World} {v : Value} {xs : List Value} (h : w.ownsRow base e size v n xs) (hb : Below w.heap.size w w') : w'.ownsRow base e size v n xs :=
  own_only (bs := []) h (Only.of_below hb []) (fun _ _ hx => by cases hx)
end Go.Proofs.Ytigfiopmochliaa.C8
/- The contracts of the reader: joined, Clone, Read, spoil, Number, Text, Bad, End. -/
namespace Go.Proofs.Ytigfiopmochliaa.C8
open Go.RowKit
theorem i64_or_nat (a b : Nat) (ha : a < 9223372036854775808) (hb : b < 9223372036854775808) : bits .or .i64 (a : Int) (b : Int) = ((a ||| b : Nat) : Int) := by
  have hx : a ||| b < 2 ^ 63 := Nat.or_lt_two_pow (by omega) (by omega)
  show IntKind.i64.wrap ((BitVec.ofInt 64 (a : Int) ||| BitVec.ofInt 64 (b : Int)).toNat : Int) = _
  rw [BitVec.toNat_or, ofInt_u64 a (by omega), ofInt_u64 b (by omega)]
  exact i64_id _ (by omega)
theorem or_byte_i {a x : Nat} (ha : a < 36028797018963968) (hx : x < 256) : bits BinOp.or .i64 ((a : Int) * 256) (x : Int) = (a : Int) * 256 + (x : Int) := by
  have h := i64_or_nat (a * 256) x (by omega) (by omega)
  rw [Int.natCast_mul] at h
  refine h.trans ?_
  rw [Nat.mul_comm, ← Nat.two_pow_add_eq_or_of_lt (i := 8) hx a]
  omega
theorem ints_drop (k : IntKind) (l : List Nat) (n : Nat) : ints k (l.drop n) = (ints k l).drop n := by simp [ints]
theorem range_drop {w : World} {g o : Nat} {l : List Nat} (h : w.rangeAt g o (ints .u8 l)) (n : Nat) : w.rangeAt g (o + n) (ints .u8 (l.drop n)) := fun j u hu => by
  rw [ints_drop, List.getElem?_drop] at hu
  rw [Nat.add_assoc]
  exact h _ _ hu
theorem range_take {w : World} {g o : Nat} {l : List Nat} (h : w.rangeAt g o (ints .u8 l)) (n : Nat) : w.rangeAt g o (ints .u8 (l.take n)) := fun j u hu => by
  have e : ints .u8 (l.take n) = (ints .u8 l).take n := by simp [ints]
  rw [e, List.getElem?_take] at hu
  split at hu
  · exact h _ _ hu
  · cases hu
theorem cons_of {n : Nat} : ∀ (l : List Value), l.length = n + 1 → ∃ x l', l = x :: l' ∧ l'.length = n
  | x :: l', h => ⟨x, l', rfl, by simpa using h⟩
/-- Where the ways out meet. -/
def lackJ (p m : Nat) (w : World) (a' : Act) (w' : World) : Prop := w' = w ∧ ∃ l : List Value, l.length = m ∧ a' = { tmps := (.pointer (some ⟨p, 0, none⟩) :: l).toArray, defers := [] }
end Go.Proofs.Ytigfiopmochliaa.C8
/- The contracts of the reader's Text, Bad and End, and of Read. -/
namespace Go.Proofs.Ytigfiopmochliaa.C8
open Go.RowKit
/-- A text that is told: a piece of the reader's bytes, or nothing. -/
def Told (g o n : Nat) (v : Value) : Prop := (n = 0 ∧ ∃ ad c, v = .slice (some ad) 0 c) ∨ v = .slice (some ⟨g, o, none⟩) n n
end Go.Proofs.Ytigfiopmochliaa.C8
/- The contracts of Clone and Read. -/
namespace Go.Proofs.Ytigfiopmochliaa.C8
open Go.RowKit
theorem own_built (w : World) : (w.alloc (.cells #[] 5)).ownsRow w.heap.size 5 1 (.slice (some ⟨w.heap.size, 0, none⟩) 0 0) 0 (ints .u8 []) :=
  ⟨rfl, .inr ⟨w.heap.size, 0, #[], rfl, Nat.le_refl _, heap_alloc_new w _, Nat.le_refl _, by unfold maxLen; omega, rfl, rfl⟩⟩
theorem Src.cases {w : World} {v : Value} {l : List Nat} (h : Src w v l) : (v = .slice none 0 0 ∧ l = []) ∨ ∃ ad c, v = .slice (some ad) l.length c := by
  obtain ⟨_, h1 | ⟨ad, c, rfl, rfl⟩ | ⟨b, o, c, rfl, _⟩⟩ := h
  · exact .inl h1
  · exact .inr ⟨_, _, rfl⟩
  · exact .inr ⟨_, _, rfl⟩
end Go.Proofs.Ytigfiopmochliaa.C8
