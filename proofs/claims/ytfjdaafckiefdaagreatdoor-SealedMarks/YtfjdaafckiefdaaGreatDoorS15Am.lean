/- Regions that draw their order, hold calls one after the other, and lay and set structs of their own: as many as there are. -/
import Derived.Test.YtfjdaafckiefdaaGreatDoorS15Rg
import Derived.Test.YtfjdaafckiefdaaGreatDoorMgP
namespace Go.Proofs.YtfjdaafckiefdaaGreatDoor.S15
open Go.RowKit C8 E9
open S7 (Fr Kx By Sw TU Shr)
/-- A struct that is laid and set: by which operations, in which slot it is, its type, as it is laid, and what it is set to. -/
structure Bx where
  ia : Nat
  st : Nat
  da : Tmp
  T : TypeId
  Z : Array Value
  CP : Array Value → World → Prop
/-- Where a struct stands. -/
def BxS (base : Nat) (f : Nat → Bool) (a : Act) (w : World) (x : Bx) : Prop := f x.ia = true → ∃ b, a.tmps.getD x.da undef = .pointer (some ⟨b, 0, none⟩) ∧ base ≤ b ∧ b < w.heap.size ∧ (f x.st = false → w.heap[b]? = some (.cells x.Z x.T (0, 0))) ∧ (f x.st = true → ∃ C, w.heap[b]? = some (.cells C x.T (0, 0)) ∧ x.CP C w)
/-- What stands between two operations. -/
structure Am (bs cs : List Nat) (R : Nat → World → Prop) (W0 : World) (bxs : List Bx) (f : Nat → Bool) (a : Act) (w : World) : Prop where
  seq : SeqS cs R f w
  old : S7.Only bs W0 w
  box : ∀ x ∈ bxs, BxS W0.heap.size f a w x
  dis : ∀ x ∈ bxs, ∀ y ∈ bxs, x.ia ≠ y.ia → f x.ia = true → f y.ia = true → a.tmps.getD x.da undef ≠ a.tmps.getD y.da undef
  sto : ∀ x ∈ bxs, f x.st = true → f x.ia = true
/-- What is known of a region: no struct's slot or operation is another's, none is a call. -/
structure Amk (cs : List Nat) (R : Nat → World → Prop) (B : Nat) (tu ts : List (Option TypeId)) (bxs : List Bx) (W0 : World) : Prop where
  low : B ≤ W0.heap.size
  st : ∀ x ∈ bxs, some x.T ∉ tu ∧ some x.T ∈ ts ∧ x.ia ∉ cs ∧ x.st ∉ cs
  one : ∀ x ∈ bxs, ∀ y ∈ bxs, (x.ia = y.ia ∨ x.st = y.st ∨ x.da = y.da) → x = y
  apart : ∀ x ∈ bxs, ∀ y ∈ bxs, x.ia ≠ y.st
  cp : ∀ x ∈ bxs, ∀ C u u', x.CP C u → Kx (ts ++ tu) B u u' → x.CP C u'
  res : ∀ k u u', R k u → Kx ts B u u' → R k u'
section
variable {P : Program} {ops : Array Oper} {Q : Exit → Act → World → Prop} {V : Nat → Value → World → Prop} {bs cs : List Nat} {tu ts : List (Option TypeId)} {B : Nat} {R : Nat → World → Prop} {W0 : World} {bxs : List Bx} {f : Nat → Bool} {i : Nat} {o : Oper} {a' : Act} {w' : World}
theorem Am.start {a : Act} {w : World} (ho : S7.Only bs W0 w) (h : R 0 w) : Am bs cs R W0 bxs (fun _ => false) a w :=
  ⟨SeqS.start h, ho, fun _ _ e => by simp at e, fun _ _ _ _ _ e => by simp at e, fun _ _ e => by simp at e⟩
theorem kx_up (tu : List (Option TypeId)) {ts : List (Option TypeId)} {B : Nat} {u u' : World} (h : Kx ts B u u') : Kx (ts ++ tu) B u u' := h.mono (fun _ ht => List.mem_append_left _ ht)
theorem kx_side {tu : List (Option TypeId)} (ts : List (Option TypeId)) {B : Nat} {u u' : World} (h : Kx tu B u u') : Kx (ts ++ tu) B u u' := h.mono (fun _ ht => List.mem_append_right _ ht)
/-- A step that turns no struct's block and no struct's slot, and neither lays nor sets one. -/
theorem Am.go (K : Amk cs R B tu ts bxs W0) (hS : Am bs cs R W0 bxs f a' w') {a2 : Act} {w2 : World} (hk : Kx tu B w' w2) (ho : S7.Only bs w' w2) (ht : ∀ x ∈ bxs, a2.tmps.getD x.da undef = a'.tmps.getD x.da undef) (h1 : ∀ x ∈ bxs, i ≠ x.ia ∧ i ≠ x.st) (hs : SeqS cs R (fun j => if j = i then true else f j) w2) :
    Am bs cs R W0 bxs (fun j => if j = i then true else f j) a2 w2 := by
  refine ⟨hs, hS.old.trans ho, fun x hx h => ?_, fun x hx y hy hxy h2 h3 => ?_, fun x hx h => ?_⟩
  · have q1 := (h1 x hx).1
    have q2 := (h1 x hx).2
    have h' : f x.ia = true := by simpa [Ne.symm q1] using h
    obtain ⟨b, k1, k2, k3, k4, k5⟩ := hS.box x hx h'
    refine ⟨b, by rw [ht x hx]; exact k1, k2, Nat.lt_of_lt_of_le k3 ho.size, fun e => ?_, fun e => ?_⟩
    · exact hk.row _ _ (k4 (by simpa [Ne.symm q2] using e)) (K.st x hx).1
    · obtain ⟨C, c1, c2⟩ := k5 (by simpa [Ne.symm q2] using e)
      exact ⟨C, hk.row _ _ c1 (K.st x hx).1, K.cp x hx C _ _ c2 (kx_side ts hk)⟩
  · rw [ht x hx, ht y hy]
    exact hS.dis x hx y hy hxy (by simpa [Ne.symm (h1 x hx).1] using h2) (by simpa [Ne.symm (h1 y hy).1] using h3)
  · have := hS.sto x hx (by simpa [Ne.symm (h1 x hx).2] using h)
    simp [this]
theorem am_value (K : Amk cs R B tu ts bxs W0) (v : Value) (hi : ops[i]? = some o) (hw : Region.wanted o (yielded ops a'.tmps) = true) (hr : (execOp a'.eval o).run P w' = .ok (.value v) w') (hn : i ∉ cs) (h1 : ∀ x ∈ bxs, i ≠ x.ia ∧ i ≠ x.st) (hd : ∀ x ∈ bxs, o.dst ≠ some x.da) (hS : Am bs cs R W0 bxs f a' w') (hv : V i v w') :
    wpOp P ops Q i (fun a'' w2 => Kx (ts ++ tu) B w' w2 ∧ Am bs cs R W0 bxs (fun j => if j = i then true else f j) a'' w2 ∧ ∃ v, a'' = a'.put o.dst v ∧ V i v w2) a' w' :=
  wpOp_value v hi hw hr ⟨Kx.refl _ _ _, hS.go K (Kx.refl _ _ _) (S7.Only.refl _ _) (fun x hx => getD_put _ _ _ _ (hd x hx)) h1 (hS.seq.quiet hn (fun _ h => h)), v, rfl, hv⟩
theorem am_skip (K : Amk cs R B tu ts bxs W0) (hi : ops[i]? = some o) (hw : Region.wanted o (yielded ops a'.tmps) = false) (hn : i ∉ cs) (h1 : ∀ x ∈ bxs, i ≠ x.ia ∧ i ≠ x.st) (hd : ∀ x ∈ bxs, o.dst ≠ some x.da) (hS : Am bs cs R W0 bxs f a' w') (hv : V i undef w') :
    wpOp P ops Q i (fun a'' w2 => Kx (ts ++ tu) B w' w2 ∧ Am bs cs R W0 bxs (fun j => if j = i then true else f j) a'' w2 ∧ ∃ v, a'' = a'.put o.dst v ∧ V i v w2) a' w' := by
  unfold wpOp
  simp only [hi, hw]
  exact ⟨Kx.refl _ _ _, hS.go K (Kx.refl _ _ _) (S7.Only.refl _ _) (fun x hx => getD_put _ _ _ _ (hd x hx)) h1 (hS.seq.quiet hn (fun _ h => h)), undef, rfl, hv⟩
/-- An operation that lays memory of its own, of no struct that is counted. -/
theorem am_new (K : Amk cs R B tu ts bxs W0) (v : Value) {w2 : World} (hi : ops[i]? = some o) (hw : Region.wanted o (yielded ops a'.tmps) = true) (hr : (execOp a'.eval o).run P w' = .ok (.value v) w2) (hb : Below w'.heap.size w' w2) (hn : i ∉ cs) (h1 : ∀ x ∈ bxs, i ≠ x.ia ∧ i ≠ x.st) (hd : ∀ x ∈ bxs, o.dst ≠ some x.da) (hS : Am bs cs R W0 bxs f a' w') (hv : V i v w2) :
    wpOp P ops Q i (fun a'' w2 => Kx (ts ++ tu) B w' w2 ∧ Am bs cs R W0 bxs (fun j => if j = i then true else f j) a'' w2 ∧ ∃ v, a'' = a'.put o.dst v ∧ V i v w2) a' w' :=
  have hB : B ≤ w'.heap.size := Nat.le_trans K.low hS.old.size
  wpOp_value v hi hw hr ⟨Kx.of_below hb hB, hS.go K (Kx.of_below hb hB) (S7.Only.of_below hb _) (fun x hx => getD_put _ _ _ _ (hd x hx)) h1 (hS.seq.quiet hn (fun k h => K.res k _ _ h (Kx.of_below hb hB))), v, rfl, hv⟩
theorem am_quiet (K : Amk cs R B tu ts bxs W0) (fn : FuncId) (args : Array Value) (hi : ops[i]? = some o) (hw : Region.wanted o (yielded ops a'.tmps) = true) (hr : (execOp a'.eval o).run P w' = .ok (.enter fn args) w') (hn : i ∉ cs) (h1 : ∀ x ∈ bxs, i ≠ x.ia ∧ i ≠ x.st) (hd : ∀ x ∈ bxs, o.dst ≠ some x.da) (hS : Am bs cs R W0 bxs f a' w')
    (h : Calls P fn args w' fun e w2 => ∃ v, e = .returned v ∧ Below w'.heap.size w' w2 ∧ V i v w2) :
    wpOp P ops Q i (fun a'' w2 => Kx (ts ++ tu) B w' w2 ∧ Am bs cs R W0 bxs (fun j => if j = i then true else f j) a'' w2 ∧ ∃ v, a'' = a'.put o.dst v ∧ V i v w2) a' w' :=
  have hB : B ≤ w'.heap.size := Nat.le_trans K.low hS.old.size
  wpOp_call fn args hi hw hr (h.mono fun _ _ ⟨v, he, hb, hv⟩ => ⟨v, he, Kx.of_below hb hB, hS.go K (Kx.of_below hb hB) (S7.Only.of_below hb _) (fun x hx => getD_put _ _ _ _ (hd x hx)) h1 (hS.seq.quiet hn (fun k h => K.res k _ _ h (Kx.of_below hb hB))), v, rfl, hv⟩)
theorem am_call (K : Amk cs R B tu ts bxs W0) {k : Nat} (fn : FuncId) (args : Array Value) (hi : ops[i]? = some o) (hw : Region.wanted o (yielded ops a'.tmps) = true) (hr : (execOp a'.eval o).run P w' = .ok (.enter fn args) w') (hk : cs[k]? = some i) (hnd : cs.Nodup) (hf : f i = false) (hp : ∀ c, k ≠ 0 → cs[k - 1]? = some c → f c = true) (h1 : ∀ x ∈ bxs, i ≠ x.ia ∧ i ≠ x.st) (hd : ∀ x ∈ bxs, o.dst ≠ some x.da) (hS : Am bs cs R W0 bxs f a' w')
    (h : R k w' → Calls P fn args w' fun e w2 => ∃ v, e = .returned v ∧ Fr bs tu B w' w2 ∧ R (k + 1) w2 ∧ V i v w2) :
    wpOp P ops Q i (fun a'' w2 => Kx (ts ++ tu) B w' w2 ∧ Am bs cs R W0 bxs (fun j => if j = i then true else f j) a'' w2 ∧ ∃ v, a'' = a'.put o.dst v ∧ V i v w2) a' w' := by
  obtain ⟨q1, q2⟩ := hS.seq.at hk hf hp
  exact wpOp_call fn args hi hw hr ((h q1).mono fun _ _ ⟨v, he, hg, hR, hv⟩ => ⟨v, he, kx_side ts hg.kx, hS.go K hg.kx hg.only (fun x hx => getD_put _ _ _ _ (hd x hx)) h1 (SeqS.next hk hnd q2 hR), v, rfl, hv⟩)
theorem am_alloc (K : Amk cs R B tu ts bxs W0) (x : Bx) (hx : x ∈ bxs) (hi : ops[i]? = some o) (hw : Region.wanted o (yielded ops a'.tmps) = true) (hr : (execOp a'.eval o).run P w' = .ok (.value (.pointer (some ⟨w'.heap.size, 0, none⟩))) (w'.alloc (.cells x.Z x.T))) (hia : i = x.ia) (hf : f i = false) (hd : o.dst = some x.da) (hda : x.da < a'.tmps.size) (hS : Am bs cs R W0 bxs f a' w')
    (hv : V i (.pointer (some ⟨w'.heap.size, 0, none⟩)) (w'.alloc (.cells x.Z x.T))) :
    wpOp P ops Q i (fun a'' w2 => Kx (ts ++ tu) B w' w2 ∧ Am bs cs R W0 bxs (fun j => if j = i then true else f j) a'' w2 ∧ ∃ v, a'' = a'.put o.dst v ∧ V i v w2) a' w' := by
  have hst : f x.st = false := by
    cases e : f x.st with
    | false => rfl
    | true => rw [hia, hS.sto x hx e] at hf; cases hf
  have hB : B ≤ w'.heap.size := Nat.le_trans K.low hS.old.size
  have hb := S7.below_alloc' w' (.cells x.Z x.T)
  have hkx : Kx tu B w' (w'.alloc (.cells x.Z x.T)) := Kx.of_below hb hB
  have hso : ∀ y ∈ bxs, y ≠ x → a'.tmps.getD y.da undef = (a'.put o.dst (.pointer (some ⟨w'.heap.size, 0, none⟩))).tmps.getD y.da undef := fun y hy e => (getD_put _ _ _ _ (by
    rw [hd]
    intro e2
    exact e (K.one y hy x hx (.inr (.inr (Option.some.inj e2).symm))))).symm
  have hxd : (a'.put o.dst (.pointer (some ⟨w'.heap.size, 0, none⟩))).tmps.getD x.da undef = .pointer (some ⟨w'.heap.size, 0, none⟩) := by
    rw [hd]
    simp [Act.put, hda]
  have hfo : ∀ y ∈ bxs, y ≠ x → y.ia ≠ i := fun y hy e e2 => e (K.one y hy x hx (.inl (e2.trans hia)))
  have hfs : ∀ y ∈ bxs, y.st ≠ i := fun y hy e => K.apart x hx y hy (hia.symm.trans e.symm)
  refine wpOp_value _ hi hw hr ⟨kx_side ts hkx, ⟨hS.seq.quiet (by rw [hia]; exact (K.st x hx).2.2.1) (fun k h => K.res k _ _ h (Kx.of_below hb hB)), hS.old.trans (S7.Only.of_below hb _), fun y hy h => ?_, fun y hy z hz hyz h2 h3 => ?_, fun y hy h => ?_⟩, _, rfl, hv⟩
  · by_cases e : y = x
    · subst e
      refine ⟨w'.heap.size, hxd, hS.old.size, by simp, fun _ => heap_alloc_new w' _, fun e => ?_⟩
      have : f y.st = true := by simpa [hfs y hy] using e
      rw [hst] at this
      cases this
    · obtain ⟨b, k1, k2, k3, k4, k5⟩ := hS.box y hy (by simpa [hfo y hy e] using h)
      refine ⟨b, by rw [← hso y hy e]; exact k1, k2, Nat.lt_of_lt_of_le k3 hb.size, fun e => ?_, fun e => ?_⟩
      · exact (hb.block b k3).trans (k4 (by simpa [hfs y hy] using e))
      · obtain ⟨C, c1, c2⟩ := k5 (by simpa [hfs y hy] using e)
        exact ⟨C, (hb.block b k3).trans c1, K.cp y hy C _ _ c2 (kx_side ts hkx)⟩
  · by_cases e1 : y = x
    · have e2 : z ≠ x := fun e2 => hyz (by rw [e1, e2])
      obtain ⟨b, k1, k2, k3, _⟩ := hS.box z hz (by simpa [hfo z hz e2] using h3)
      rw [e1, hxd, ← hso z hz e2, k1]
      intro e3
      have := congrArg (fun v => match v with | Value.pointer (some ad) => ad.block | _ => 0) e3
      simp only at this
      omega
    · by_cases e2 : z = x
      · obtain ⟨b, k1, k2, k3, _⟩ := hS.box y hy (by simpa [hfo y hy e1] using h2)
        rw [e2, hxd, ← hso y hy e1, k1]
        intro e3
        have := congrArg (fun v => match v with | Value.pointer (some ad) => ad.block | _ => 0) e3
        simp only at this
        omega
      · rw [← hso y hy e1, ← hso z hz e2]
        exact hS.dis y hy z hz hyz (by simpa [hfo y hy e1] using h2) (by simpa [hfo z hz e2] using h3)
  · have := hS.sto y hy (by simpa [hfs y hy] using h)
    simp [this]
theorem am_store (K : Amk cs R B tu ts bxs W0) (x : Bx) (hx : x ∈ bxs) (hi : ops[i]? = some o) (hw : Region.wanted o (yielded ops a'.tmps) = true) (hst : i = x.st) (hf : f i = false) (ha : f x.ia = true) (hd : o.dst = none) (hS : Am bs cs R W0 bxs f a' w')
    (h : ∀ b, a'.tmps.getD x.da undef = .pointer (some ⟨b, 0, none⟩) → w'.heap[b]? = some (.cells x.Z x.T (0, 0)) → ∃ w2 C, (execOp a'.eval o).run P w' = .ok .skip w2 ∧ S7.Only [b] w' w2 ∧ w2.heap[b]? = some (.cells C x.T (0, 0)) ∧ (Kx (ts ++ tu) B w' w2 → x.CP C w2 ∧ V i undef w2)) :
    wpOp P ops Q i (fun a'' w2 => Kx (ts ++ tu) B w' w2 ∧ Am bs cs R W0 bxs (fun j => if j = i then true else f j) a'' w2 ∧ ∃ v, a'' = a'.put o.dst v ∧ V i v w2) a' w' := by
  have hB : B ≤ w'.heap.size := Nat.le_trans K.low hS.old.size
  obtain ⟨b, k1, k2, k3, k4, _⟩ := hS.box x hx ha
  have k4' := k4 (by rw [← hst]; exact hf)
  obtain ⟨w2, C, r1, r2, r3, r4⟩ := h b k1 k4'
  have hkx : Kx ts B w' w2 := Kx.of_only r2 hB (fun y hy => by
    rw [List.mem_singleton.1 hy]
    exact ⟨Nat.le_trans K.low k2, fun o ho => by rw [k4'] at ho; cases ho; exact (K.st x hx).2.1⟩)
  obtain ⟨r5, r6⟩ := r4 (kx_up tu hkx)
  have hfi : ∀ y ∈ bxs, y.ia ≠ i := fun y hy e => K.apart y hy x hx (e.trans hst)
  have hfo : ∀ y ∈ bxs, y ≠ x → y.st ≠ i := fun y hy e e2 => e (K.one y hy x hx (.inr (.inl (e2.trans hst))))
  have hput : a'.put o.dst undef = a' := by rw [hd]; rfl
  have hso : S7.Only bs W0 w2 := ⟨r2.os.trans hS.old.os, r2.tape.trans hS.old.tape, r2.output.trans hS.old.output, Nat.le_trans hS.old.size r2.size, fun k hk hn => (r2.block k (Nat.lt_of_lt_of_le hk hS.old.size) (by simp; omega)).trans (hS.old.block k hk hn)⟩
  refine wpOp_skip hi hw r1 ⟨kx_up tu hkx, ?_, undef, rfl, r6⟩
  rw [hput]
  refine ⟨hS.seq.quiet (by rw [hst]; exact (K.st x hx).2.2.2) (fun k h => K.res k _ _ h hkx), hso, fun y hy h => ?_, fun y hy z hz hyz h2 h3 => ?_, fun y hy h => ?_⟩
  · by_cases e0 : y = x
    · subst e0
      exact ⟨b, k1, k2, Nat.lt_of_lt_of_le k3 r2.size, fun e => by simp [← hst] at e, fun _ => ⟨C, r3, r5⟩⟩
    · have hy' : f y.ia = true := by simpa [hfi y hy] using h
      obtain ⟨b', j1, j2, j3, j4, j5⟩ := hS.box y hy hy'
      have hne : b' ≠ b := fun e3 => hS.dis y hy x hx (fun e4 => e0 (K.one y hy x hx (.inl e4))) hy' ha (by rw [j1, k1, e3])
      refine ⟨b', j1, j2, Nat.lt_of_lt_of_le j3 r2.size, fun e => ?_, fun e => ?_⟩
      · exact (r2.block b' j3 (by simpa using hne)).trans (j4 (by simpa [hfo y hy e0] using e))
      · obtain ⟨C', c1, c2⟩ := j5 (by simpa [hfo y hy e0] using e)
        exact ⟨C', (r2.block b' j3 (by simpa using hne)).trans c1, K.cp y hy C' _ _ c2 (kx_up tu hkx)⟩
  · exact hS.dis y hy z hz hyz (by simpa [hfi y hy] using h2) (by simpa [hfi z hz] using h3)
  · by_cases e0 : y = x
    · subst e0
      simp [ha]
    · have := hS.sto y hy (by simpa [hfo y hy e0] using h)
      simp [this]
/-- A whole struct is set. -/
theorem am_set (K : Amk cs R B tu ts bxs W0) (x : Bx) (hx : x ∈ bxs) (C : Array Value) (u : Tmp) (hi : ops[i]? = some o) (hw : Region.wanted o (yielded ops a'.tmps) = true) (ho : o.op = .store x.T (.tmp x.da) (.tmp u)) (h1 : a'.tmps.getD u undef = .agg C) (hI : (P.info? x.T).map (·.size) = some C.size) (hZ : x.Z.size = C.size) (hC : C.all (·.oneCell') = true) (hst : i = x.st) (hf : f i = false) (ha : f x.ia = true) (hd : o.dst = none) (hS : Am bs cs R W0 bxs f a' w')
    (h : ∀ w2, Kx (ts ++ tu) B w' w2 → x.CP C w2 ∧ V i undef w2) :
    wpOp P ops Q i (fun a'' w2 => Kx (ts ++ tu) B w' w2 ∧ Am bs cs R W0 bxs (fun j => if j = i then true else f j) a'' w2 ∧ ∃ v, a'' = a'.put o.dst v ∧ V i v w2) a' w' :=
  am_store K x hx hi hw hst hf ha hd hS (fun b hb hh => ⟨w'.setRow b C, C, by
    have he : a'.eval (.tmp x.da) = .pointer (some ⟨b, 0, none⟩) := hb
    have hg : a'.eval (.tmp u) = .agg C := h1
    unfold execOp
    simp only [ho, he, hg, Instr.storeAt, Instr.sureAddr, Sem.run_bind, Sem.run_pure, Result.andThen_ok, run_storeVar_row w' b x.T x.T x.Z C hh hI hZ hC], ⟨rfl, rfl, rfl, by simp, fun k _ hn => setRow_other w' b k C (by simpa using hn)⟩, setRow_heap w' b _ _ _ _ hh, fun hk => h _ hk⟩)
/-- A store that is counted, into a struct that stood before. -/
theorem am_last (K : Amk cs R B tu ts [] W0) {k : Nat} (hi : ops[i]? = some o) (hw : Region.wanted o (yielded ops a'.tmps) = true) (hk : cs[k]? = some i) (hnd : cs.Nodup) (hf : f i = false) (hp : ∀ c, k ≠ 0 → cs[k - 1]? = some c → f c = true) (hS : Am bs cs R W0 [] f a' w')
    (h : R k w' → ∃ w2, (execOp a'.eval o).run P w' = .ok .skip w2 ∧ S7.Only bs w' w2 ∧ Kx tu B w' w2 ∧ R (k + 1) w2 ∧ V i undef w2) :
    wpOp P ops Q i (fun a'' w2 => Kx (ts ++ tu) B w' w2 ∧ Am bs cs R W0 [] (fun j => if j = i then true else f j) a'' w2 ∧ ∃ v, a'' = a'.put o.dst v ∧ V i v w2) a' w' := by
  obtain ⟨q1, q2⟩ := hS.seq.at hk hf hp
  obtain ⟨w2, r1, r2, r3, r4, r5⟩ := h q1
  exact wpOp_skip hi hw r1 ⟨kx_side ts r3, hS.go K r3 r2 (fun _ hx => by cases hx) (fun _ hx => by cases hx) (SeqS.next hk hnd q2 r4), undef, rfl, r5⟩
/-- A struct when all have been. -/
theorem Am.at (hS : Am bs cs R W0 bxs f a' w') (x : Bx) (hx : x ∈ bxs) (ha : f x.ia = true) (hs : f x.st = true) : ∃ b C, a'.tmps.getD x.da undef = .pointer (some ⟨b, 0, none⟩) ∧ W0.heap.size ≤ b ∧ b < w'.heap.size ∧ w'.heap[b]? = some (.cells C x.T (0, 0)) ∧ x.CP C w' := by
  obtain ⟨b, k1, k2, k3, _, k5⟩ := hS.box x hx ha
  obtain ⟨C, k6, k7⟩ := k5 hs
  exact ⟨b, C, k1, k2, k3, k6, k7⟩
end
/-- Errors' numbers, held against one another. -/
theorem eqlE_run {o : Oper} {a' : Act} {w' : World} (T : TypeId) (s : Tmp) (x y : Int) (r : Bool) (ho : o.op = .binOp .eql T (.tmp s) (.const (.int .i64 y)) T) (hT : T = 27 ∨ T = 3) (h0 : a'.tmps.getD s undef = .int .i64 x) (hr : (x == y) = r) : (execOp a'.eval o).run Tryz.prog w' = .ok (.value (.bool r)) w' := by
  have he : a'.eval (.tmp s) = .int .i64 x := h0
  have hf : a'.eval (.const (.int .i64 y)) = .int .i64 y := rfl
  unfold execOp
  simp only [ho]
  rw [he, hf]
  rcases hT with rfl | rfl <;> simp [go_sem, ← hr]
theorem neqE_run {o : Oper} {a' : Act} {w' : World} (T : TypeId) (s : Tmp) (x y : Int) (r : Bool) (ho : o.op = .binOp .neq T (.tmp s) (.const (.int .i64 y)) T) (hT : T = 27 ∨ T = 3) (h0 : a'.tmps.getD s undef = .int .i64 x) (hr : (x != y) = r) : (execOp a'.eval o).run Tryz.prog w' = .ok (.value (.bool r)) w' := by
  have he : a'.eval (.tmp s) = .int .i64 x := h0
  have hf : a'.eval (.const (.int .i64 y)) = .int .i64 y := rfl
  unfold execOp
  simp only [ho]
  rw [he, hf]
  rcases hT with rfl | rfl <;> simp [go_sem, ← hr]
/-- The slots behind a region: those that it doesn't write are as they were. -/
theorem frame_of {A F : Array Value} (ts : List Nat) (hs : A.size = F.size) (h : ∀ t, ts.contains t = false → A.getD t undef = F.getD t undef) : A = ts.foldl (fun G t => G.setIfInBounds t (A.getD t undef)) F := by
  have key : ∀ (ts : List Nat) (G : Array Value), (ts.foldl (fun G t => G.setIfInBounds t (A.getD t undef)) G).size = G.size ∧ ∀ i (hi : i < G.size), (ts.foldl (fun G t => G.setIfInBounds t (A.getD t undef)) G).getD i undef = if i ∈ ts then A.getD i undef else G.getD i undef := by
    intro ts
    induction ts with
    | nil => intro G; exact ⟨rfl, fun i hi => by simp⟩
    | cons t r ih =>
      intro G
      obtain ⟨h1, h2⟩ := ih (G.setIfInBounds t (A.getD t undef))
      refine ⟨by simpa using h1, fun i hi => ?_⟩
      have h3 := h2 i (by simpa using hi)
      rw [List.foldl_cons, h3]
      by_cases hr : i ∈ r
      · simp [hr]
      · by_cases ht : i = t
        · subst ht
          simp [hr, hi, Array.getD_eq_getD_getElem?]
        · simp [hr, ht, Array.getD_eq_getD_getElem?, Ne.symm ht]
  obtain ⟨k1, k2⟩ := key ts F
  refine Array.ext (by rw [k1, hs]) (fun i h1 h2 => ?_)
  have e1 : ∀ (X : Array Value) (hx : i < X.size), X[i] = X.getD i undef := fun X hx => by simp [hx]
  have hi : i < F.size := by omega
  rw [e1 A h1, e1 _ h2, k2 i hi]
  by_cases hn : i ∈ ts
  · rw [if_pos hn]
  · rw [if_neg hn]
    exact h i (by simpa using hn)
theorem row_old {bs : List Nat} {W0 w : World} {b : Nat} {ob : Obj} (ho : S7.Only bs W0 w) (hb : b ∉ bs) (h : W0.heap[b]? = some ob) : w.heap[b]? = some ob := (ho.block b (Array.getElem?_eq_some_iff.1 h).1 hb).trans h
/-- A list's elements, one by one. -/
theorem all1 {α : Type} {x : α} {p : α → Prop} (h : p x) : ∀ y ∈ [x], p y := fun y hy => by rw [List.mem_singleton.1 hy]; exact h
theorem all2 {α : Type} {x y : α} {p : α → Prop} (h : p x) (k : p y) : ∀ z ∈ [x, y], p z := fun z hz => by
  simp only [List.mem_cons, List.not_mem_nil, or_false] at hz
  rcases hz with rfl | rfl
  · exact h
  · exact k
theorem all0 {α : Type} {p : α → Prop} : ∀ y ∈ ([] : List α), p y := fun _ hy => by cases hy
end Go.Proofs.YtfjdaafckiefdaaGreatDoor.S15
