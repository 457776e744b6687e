/- What stays, told by the blocks' own types; steps of a region whose calls may make a thing that later ones turn. -/
import Derived.Test.YtbblokikhocdfaaDoorSt2
import Derived.Test.YtbblokikhocdfaaDoorS7St
namespace Go.Proofs.YtbblokikhocdfaaDoor.S7
open Go.RowKit
/-- Nothing below a bound is turned, and no row of bytes or of parts. -/
structure Kp (B : Nat) (u u' : World) : Prop where
  low : Below B u u'
  row : ∀ (k : Nat) (cs : Array Value) (t : TypeId) (fr : Nat × Nat), u.heap[k]? = some (Obj.cells cs t fr) → t = 5 ∨ t = 32 → u'.heap[k]? = u.heap[k]?
section
variable {B : Nat} {u u' u'' : World} {bs : List Nat}
theorem Kp.refl (B : Nat) (u : World) : Kp B u u := ⟨Below.refl _ _, fun _ _ _ _ _ _ => rfl⟩
theorem Kp.trans (h : Kp B u u') (k : Kp B u' u'') : Kp B u u'' :=
  ⟨h.low.trans k.low, fun i cs t fr hi ht => by
    have h1 := h.row i cs t fr hi ht
    rw [k.row i cs t fr (h1.trans hi) ht, h1]⟩
theorem Kp.drew (B : Nat) (u : World) : Kp B u { u with drawn := u.drawn + 1 } := ⟨below_drewN 1 u B, fun _ _ _ _ _ _ => rfl⟩
theorem Kp.of_below (h : Below u.heap.size u u') (hB : B ≤ u.heap.size) : Kp B u u' :=
  ⟨h.mono hB, fun k _ _ _ hk _ => h.block k (Array.getElem?_eq_some_iff.1 hk).1⟩
theorem Kp.of_only (h : Only bs u u') (hB : B ≤ u.heap.size) (hs : ∀ y ∈ bs, B ≤ y ∧ ∀ (cs : Array Value) (t : TypeId) (fr : Nat × Nat), u.heap[y]? = some (Obj.cells cs t fr) → t ≠ 5 ∧ t ≠ 32) : Kp B u u' :=
  ⟨h.below hB (fun y hy => (hs y hy).1), fun k cs t fr hk ht => h.block k (Array.getElem?_eq_some_iff.1 hk).1 (fun e => ht.elim ((hs k e).2 cs t fr hk).1 ((hs k e).2 cs t fr hk).2)⟩
end
/-- A part that is laid for a call, and its block's type. -/
def PartT (x : Value) (v : Value) (w : World) : Prop := ∃ g, v = .slice (some ⟨g, 0, none⟩) 1 1 ∧ w.heap[g]? = some (.cells #[x] 32 (0, 0))
theorem PartT.cell {x v : Value} {w : World} (h : PartT x v w) : ∃ g, v = .slice (some ⟨g, 0, none⟩) 1 1 ∧ w.cell? ⟨g, 0, none⟩ = some x := by
  obtain ⟨g, rfl, h⟩ := h
  exact ⟨g, rfl, by simp [World.cell?, h]⟩
theorem PartT.rows {x v : Value} {w w' : World} {B : Nat} (h : PartT x v w) (hr : Kp B w w') : PartT x v w' := by
  obtain ⟨g, rfl, h⟩ := h
  exact ⟨g, rfl, (hr.row g _ _ _ h (.inr rfl)).trans h⟩
theorem OwnV.rows {b B : Nat} {l : List Nat} {v : Value} {w w' : World} (h : OwnV b l v w) (hr : Kp B w w') : OwnV b l v w' := by
  obtain ⟨h1, h2 | ⟨g, c, cur, hv, hb, hg, h3⟩⟩ := h
  · exact ⟨h1, .inl h2⟩
  · exact ⟨h1, .inr ⟨g, c, cur, hv, hb, (hr.row g _ _ _ hg (.inl rfl)).trans hg, h3⟩⟩
theorem OwnV.src {b : Nat} {l : List Nat} {v : Value} {w : World} (h : OwnV b l v w) (hs : ∀ y ∈ l, y < 256) : Src w v l := Src.own hs h
theorem OwnV.older {b b' : Nat} {l : List Nat} {v : Value} {w : World} (h : OwnV b l v w) (hb : b' ≤ b) : OwnV b' l v w := own_older h hb
theorem partT_new {w : World} {x : Value} : PartT x (.slice (some ⟨w.heap.size, 0, none⟩) 1 1) (w.alloc (.cells #[x] 32)) := ⟨_, rfl, heap_alloc_new w _⟩
section
variable {P : Program} {ops : Array Oper} {Q : Exit → Act → World → Prop} {V : Nat → Value → World → Prop} {cs : List Nat} {R : Nat → Value → Value → World → Prop} {f : Nat → Bool} {B t1 t2 : Nat}
/-- As SeqS, where what is said may name what lies in two slots. -/
def SeqA (cs : List Nat) (R : Nat → Value → Value → World → Prop) (t1 t2 : Nat) (f : Nat → Bool) (a : Act) (w : World) : Prop := SeqS cs (fun k u => R k (a.tmps.getD t1 undef) (a.tmps.getD t2 undef) u) f w
theorem sa_value {i : Nat} {o : Oper} {a' : Act} {w' w'' : World} (v : Value) (hi : ops[i]? = some o) (hw : Region.wanted o (yielded ops a'.tmps) = true)
    (hr : (execOp a'.eval o).run P w' = .ok (.value v) w'') (hb : Below w'.heap.size w' w'') (hB : B ≤ w'.heap.size) (h1 : o.dst ≠ some t1) (h2 : o.dst ≠ some t2) (hn : i ∉ cs) (hS : SeqA cs R t1 t2 f a' w')
    (hR : ∀ k x y w w', Below w.heap.size w w' → R k x y w → R k x y w') (hv : V i v w'') :
    wpOp P ops Q i (fun a'' w2 => Kp B w' w2 ∧ SeqA cs R t1 t2 (fun j => if j = i then true else f j) a'' w2 ∧ ∃ v, a'' = a'.put o.dst v ∧ V i v w2) a' w' := by
  refine wpOp_value v hi hw hr ⟨Kp.of_below hb hB, ?_, v, rfl, hv⟩
  unfold SeqA
  rw [getD_put _ _ _ _ h1, getD_put _ _ _ _ h2]
  exact SeqS.quiet hS hn (fun k => hR k _ _ w' w'' hb)
/-- A step of the chain that is no call. -/
theorem sa_event {i k : Nat} {o : Oper} {a' : Act} {w' : World} (v : Value) (hi : ops[i]? = some o) (hw : Region.wanted o (yielded ops a'.tmps) = true)
    (hr : (execOp a'.eval o).run P w' = .ok (.value v) w') (hB : B ≤ w'.heap.size) (hk : cs[k]? = some i) (hnd : cs.Nodup) (hf : f i = false) (hp : ∀ c, k ≠ 0 → cs[k - 1]? = some c → f c = true) (hS : SeqA cs R t1 t2 f a' w') (h1 : o.dst ≠ some t1) (h2 : o.dst ≠ some t2)
    (h : R k (a'.tmps.getD t1 undef) (a'.tmps.getD t2 undef) w' → R (k + 1) (a'.tmps.getD t1 undef) (a'.tmps.getD t2 undef) w') (hv : V i v w') :
    wpOp P ops Q i (fun a'' w2 => Kp B w' w2 ∧ SeqA cs R t1 t2 (fun j => if j = i then true else f j) a'' w2 ∧ ∃ v, a'' = a'.put o.dst v ∧ V i v w2) a' w' := by
  obtain ⟨g1, g2⟩ := SeqS.at hS hk hf hp
  refine wpOp_value v hi hw hr ⟨Kp.of_below (Below.refl _ _) hB, ?_, v, rfl, hv⟩
  unfold SeqA
  rw [getD_put _ _ _ _ h1, getD_put _ _ _ _ h2]
  exact SeqS.next hk hnd g2 (h g1)
theorem sa_call {i k : Nat} {o : Oper} {a' : Act} {w' : World} (fn : FuncId) (args : Array Value) (hi : ops[i]? = some o) (hw : Region.wanted o (yielded ops a'.tmps) = true)
    (hr : (execOp a'.eval o).run P w' = .ok (.enter fn args) w') (hk : cs[k]? = some i) (hnd : cs.Nodup) (hf : f i = false) (hp : ∀ c, k ≠ 0 → cs[k - 1]? = some c → f c = true) (hS : SeqA cs R t1 t2 f a' w')
    (h : R k (a'.tmps.getD t1 undef) (a'.tmps.getD t2 undef) w' → Calls P fn args w' fun e w2 => ∃ v, e = .returned v ∧ Kp B w' w2 ∧ R (k + 1) ((a'.put o.dst v).tmps.getD t1 undef) ((a'.put o.dst v).tmps.getD t2 undef) w2 ∧ V i v w2) :
    wpOp P ops Q i (fun a'' w2 => Kp B w' w2 ∧ SeqA cs R t1 t2 (fun j => if j = i then true else f j) a'' w2 ∧ ∃ v, a'' = a'.put o.dst v ∧ V i v w2) a' w' := by
  obtain ⟨h1, h2⟩ := SeqS.at hS hk hf hp
  exact wpOp_call fn args hi hw hr ((h h1).mono fun _ _ ⟨v, he, hg, hR, hv⟩ => ⟨v, he, hg, SeqS.next hk hnd h2 hR, v, rfl, hv⟩)
/-- A call whose answer lies in neither slot. -/
theorem sa_call0 {i k : Nat} {o : Oper} {a' : Act} {w' : World} (fn : FuncId) (args : Array Value) (hi : ops[i]? = some o) (hw : Region.wanted o (yielded ops a'.tmps) = true)
    (hr : (execOp a'.eval o).run P w' = .ok (.enter fn args) w') (hk : cs[k]? = some i) (hnd : cs.Nodup) (hf : f i = false) (hp : ∀ c, k ≠ 0 → cs[k - 1]? = some c → f c = true) (hS : SeqA cs R t1 t2 f a' w') (hd1 : o.dst ≠ some t1) (hd2 : o.dst ≠ some t2)
    (h : R k (a'.tmps.getD t1 undef) (a'.tmps.getD t2 undef) w' → Calls P fn args w' fun e w2 => ∃ v, e = .returned v ∧ Kp B w' w2 ∧ R (k + 1) (a'.tmps.getD t1 undef) (a'.tmps.getD t2 undef) w2 ∧ V i v w2) :
    wpOp P ops Q i (fun a'' w2 => Kp B w' w2 ∧ SeqA cs R t1 t2 (fun j => if j = i then true else f j) a'' w2 ∧ ∃ v, a'' = a'.put o.dst v ∧ V i v w2) a' w' :=
  sa_call fn args hi hw hr hk hnd hf hp hS (fun hR => (h hR).mono fun _ _ ⟨v, he, hg, hR, hv⟩ => ⟨v, he, hg, by rw [getD_put _ _ _ _ hd1, getD_put _ _ _ _ hd2]; exact hR, hv⟩)
/-- The calls that answer what lies in the first slot, and in the second. -/
theorem sa_call1 {i k : Nat} {o : Oper} {a' : Act} {w' : World} (fn : FuncId) (args : Array Value) (hi : ops[i]? = some o) (hw : Region.wanted o (yielded ops a'.tmps) = true)
    (hr : (execOp a'.eval o).run P w' = .ok (.enter fn args) w') (hk : cs[k]? = some i) (hnd : cs.Nodup) (hf : f i = false) (hp : ∀ c, k ≠ 0 → cs[k - 1]? = some c → f c = true) (hS : SeqA cs R t1 t2 f a' w') (hd1 : o.dst = some t1) (hd2 : t1 ≠ t2) (ht : t1 < a'.tmps.size)
    (h : R k (a'.tmps.getD t1 undef) (a'.tmps.getD t2 undef) w' → Calls P fn args w' fun e w2 => ∃ v, e = .returned v ∧ Kp B w' w2 ∧ R (k + 1) v (a'.tmps.getD t2 undef) w2 ∧ V i v w2) :
    wpOp P ops Q i (fun a'' w2 => Kp B w' w2 ∧ SeqA cs R t1 t2 (fun j => if j = i then true else f j) a'' w2 ∧ ∃ v, a'' = a'.put o.dst v ∧ V i v w2) a' w' :=
  sa_call fn args hi hw hr hk hnd hf hp hS (fun hR => (h hR).mono fun _ _ ⟨v, he, hg, hR, hv⟩ => ⟨v, he, hg, by rw [hd1, getD_put_same _ _ _ ht, getD_put _ _ _ _ (fun e => hd2 (Option.some.inj e))]; exact hR, hv⟩)
theorem sa_call2 {i k : Nat} {o : Oper} {a' : Act} {w' : World} (fn : FuncId) (args : Array Value) (hi : ops[i]? = some o) (hw : Region.wanted o (yielded ops a'.tmps) = true)
    (hr : (execOp a'.eval o).run P w' = .ok (.enter fn args) w') (hk : cs[k]? = some i) (hnd : cs.Nodup) (hf : f i = false) (hp : ∀ c, k ≠ 0 → cs[k - 1]? = some c → f c = true) (hS : SeqA cs R t1 t2 f a' w') (hd1 : o.dst = some t2) (hd2 : t2 ≠ t1) (ht : t2 < a'.tmps.size)
    (h : R k (a'.tmps.getD t1 undef) (a'.tmps.getD t2 undef) w' → Calls P fn args w' fun e w2 => ∃ v, e = .returned v ∧ Kp B w' w2 ∧ R (k + 1) (a'.tmps.getD t1 undef) v w2 ∧ V i v w2) :
    wpOp P ops Q i (fun a'' w2 => Kp B w' w2 ∧ SeqA cs R t1 t2 (fun j => if j = i then true else f j) a'' w2 ∧ ∃ v, a'' = a'.put o.dst v ∧ V i v w2) a' w' :=
  sa_call fn args hi hw hr hk hnd hf hp hS (fun hR => (h hR).mono fun _ _ ⟨v, he, hg, hR, hv⟩ => ⟨v, he, hg, by rw [hd1, getD_put_same _ _ _ ht, getD_put _ _ _ _ (fun e => hd2 (Option.some.inj e))]; exact hR, hv⟩)
end
section
variable {o : Oper} {a' : Act} {w' : World}
theorem eqlN_run (ty : TypeId) (t : Tmp) (z : Int) (ho : o.op = .binOp .eql ty (.tmp t) (.const (.int .i64 z)) ty) (h0 : a'.tmps.getD t undef = .int .i64 z) :
    (execOp a'.eval o).run Tryd.prog w' = .ok (.value (.bool true)) w' := by
  have he : a'.eval (.tmp t) = .int .i64 z := h0
  have hc : a'.eval (.const (.int .i64 z)) = .int .i64 z := rfl
  unfold execOp
  simp only [ho]
  rw [he, hc]
  simp [go_sem]
theorem eqlS_run (s t : Tmp) (x : ByteArray) (ho : o.op = .binOp .eql 9 (.tmp s) (.tmp t) 9) (h0 : a'.tmps.getD s undef = .string x) (h1 : a'.tmps.getD t undef = .string x) :
    (execOp a'.eval o).run Tryd.prog w' = .ok (.value (.bool true)) w' := by
  have he : a'.eval (.tmp s) = .string x := h0
  have hc : a'.eval (.tmp t) = .string x := h1
  unfold execOp
  simp only [ho]
  rw [he, hc]
  simp [go_sem]
theorem pick_run (s t : Tmp) (ho : o.op = .pick (.tmp s) (.tmp t) (.const (.bool false))) (h0 : a'.tmps.getD s undef = .bool true) (h1 : a'.tmps.getD t undef = .bool true) :
    (execOp a'.eval o).run Tryd.prog w' = .ok (.value (.bool true)) w' := by
  have he : a'.eval (.tmp s) = .bool true := h0
  have hc : a'.eval (.tmp t) = .bool true := h1
  unfold execOp
  simp only [ho]
  rw [he, hc]
  simp [go_sem]
end
end Go.Proofs.YtbblokikhocdfaaDoor.S7
