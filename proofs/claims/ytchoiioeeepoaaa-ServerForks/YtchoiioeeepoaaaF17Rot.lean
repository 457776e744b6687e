/- The region in which Decode reads one link and puts it behind the others: what stands between its operations, and its steps. -/
import Derived.Test.YtchoiioeeepoaaaF17D4
import Derived.Test.YtchoiioeeepoaaaC8St
namespace Go.Proofs.Ytchoiioeeepoaaa.F17
open Go.RowKit C8 E9
/-- The blocks that the region may turn. -/
def rotB (p b7 : Nat) (sl : Value) : List Nat := p :: b7 :: sl.ownBlock.toList
/-- What an operation has left. -/
def RotV (p b7 A B : Nat) (sl : Value) (t : List Nat) : Nat → Value → World → Prop
  | 0 => IsV (.pointer (some ⟨b7, 3, none⟩))
  | 1 => IsV sl
  | 2 => IsV (.func (.func 37) #[.pointer (some ⟨p, 0, none⟩)] #[])
  | 3 => fun v u => ∃ tp tc, v = .slice tp t.length tc ∧ Tx u p A B (.slice tp t.length tc) t
  | 4 => fun v u => ∃ g tp tc, v = .slice (some ⟨g, 0, none⟩) 1 1 ∧ u.heap[g]? = some (.cells #[.slice tp t.length tc] 32 (0, 0)) ∧ Tx u p A B (.slice tp t.length tc) t ∧ g ∉ rotB p b7 sl
  | 6 => IsV (.pointer (some ⟨b7, 3, none⟩))
  | _ => fun _ _ => True
theorem RotV.kept {p b7 A B : Nat} {sl : Value} {t : List Nat} (hbs : ∀ x ∈ rotB p b7 sl, x = p ∨ B ≤ x) : ∀ i v w w', RotV p b7 A B sl t i v w → Only (rotB p b7 sl) w w' → RotV p b7 A B sl t i v w'
  | 0, _, _, _, h, _ => h
  | 1, _, _, _, h, _ => h
  | 2, _, _, _, h, _ => h
  | 3, _, _, _, ⟨tp, tc, h1, h2⟩, ho => ⟨tp, tc, h1, Tx.onlyL h2 ho hbs⟩
  | 4, _, _, _, ⟨g, tp, tc, h1, h2, h3, h4⟩, ho => ⟨g, tp, tc, h1, (ho.block g (Array.getElem?_eq_some_iff.1 h2).1 h4).trans h2, Tx.onlyL h3 ho hbs, h4⟩
  | 5, _, _, _, _, _ => trivial
  | 6, _, _, _, h, _ => h
  | _ + 7, _, _, _, _, _ => trivial
/-- What stands: behind so many of its three events. -/
def RotR (w : World) (p B b7 : Nat) (CE : Value → Array Value) (sl : Value) (s s' : Sta) (j : Nat) (xs : List Value) (ws ws' : List (List Nat)) : Nat → Value → World → Prop
  | 0, _, u => D4 w u p B s ∧ u.heap[b7]? = some (.cells (CE sl) 34 (0, 0)) ∧ u.ownsRow (b7 + 1) 32 1 sl j xs ∧ AreL u p (w.heap.size + 1) B xs ws
  | 1, _, u => D4 w u p B s' ∧ u.heap[b7]? = some (.cells (CE sl) 34 (0, 0)) ∧ u.ownsRow (b7 + 1) 32 1 sl j xs ∧ AreL u p (w.heap.size + 1) B xs ws
  | 2, v, u => D4 w u p B s' ∧ u.heap[b7]? = some (.cells (CE sl) 34 (0, 0)) ∧ ∃ xs2, u.ownsRow (b7 + 1) 32 1 v (j + 1) xs2 ∧ AreL u p (w.heap.size + 1) B xs2 ws'
  | _, _, u => D4 w u p B s' ∧ ∃ v xs2, u.heap[b7]? = some (.cells (CE v) 34 (0, 0)) ∧ u.ownsRow (b7 + 1) 32 1 v (j + 1) xs2 ∧ AreL u p (w.heap.size + 1) B xs2 ws'
theorem rotR_below {w : World} {p B b7 : Nat} {CE : Value → Array Value} {sl : Value} {s s' : Sta} {j : Nat} {xs : List Value} {ws ws' : List (List Nat)} : ∀ k v u u', Below u.heap.size u u' → RotR w p B b7 CE sl s s' j xs ws ws' k v u → RotR w p B b7 CE sl s s' j xs ws ws' k v u' := by
  have a1 : ∀ {s u u'}, Below u.heap.size u u' → D4 w u p B s → D4 w u' p B s := fun hb h => h.up (bel_le hb h.lt)
  have a2 : ∀ {u u' : World} {c : Array Value}, Below u.heap.size u u' → u.heap[b7]? = some (.cells c 34 (0, 0)) → u'.heap[b7]? = some (.cells c 34 (0, 0)) := fun hb h => (hb.block b7 (Array.getElem?_eq_some_iff.1 h).1).trans h
  have a3 : ∀ {u u' : World} {xs ws s}, D4 w u p B s → Below u.heap.size u u' → AreL u p (w.heap.size + 1) B xs ws → AreL u' p (w.heap.size + 1) B xs ws := fun hd hb h => h.turn (fun v t ht => ht.below (bel_le hb hd.lt))
  intro k v u u' hb h
  match k, h with
  | 0, ⟨h1, h2, h3, h4⟩ => exact ⟨a1 hb h1, a2 hb h2, own_below h3 hb, a3 h1 hb h4⟩
  | 1, ⟨h1, h2, h3, h4⟩ => exact ⟨a1 hb h1, a2 hb h2, own_below h3 hb, a3 h1 hb h4⟩
  | 2, ⟨h1, h2, xs2, h3, h4⟩ => exact ⟨a1 hb h1, a2 hb h2, xs2, own_below h3 hb, a3 h1 hb h4⟩
  | _ + 3, ⟨h1, v2, xs2, h2, h3, h4⟩ => exact ⟨a1 hb h1, v2, xs2, a2 hb h2, own_below h3 hb, a3 h1 hb h4⟩
/-- Which operations have been, and what stands. -/
def RotS (R : Nat → Value → World → Prop) (f : Nat → Bool) (a : Act) (w : World) : Prop := (f 5 = true → f 1 = true) ∧ SeqS [3, 5, 7] (fun k u => R k (a.tmps.getD 34 undef) u) f w
section
variable {P : Program} {ops : Array Oper} {Q : Exit → Act → World → Prop} {V : Nat → Value → World → Prop} {bs : List Nat} {R : Nat → Value → World → Prop} {f : Nat → Bool} {i k : Nat} {o : Oper} {a' : Act} {w' w'' : World}
theorem rot_start {a : Act} {w : World} (h : ∀ x, R 0 x w) : RotS R (fun _ => false) a w := ⟨fun h => (by cases h), SeqS.start (h _)⟩
theorem rot_quiet (v : Value) (hi : ops[i]? = some o) (hw : Region.wanted o (yielded ops a'.tmps) = true) (hr : (execOp a'.eval o).run P w' = .ok (.value v) w'') (hb : Below w'.heap.size w' w'') (hn : i ∉ [3, 5, 7]) (hd : o.dst ≠ some 34)
    (hS : RotS R f a' w') (hR : ∀ k v u u', Below u.heap.size u u' → R k v u → R k v u') (hv : V i v w'') :
    wpOp P ops Q i (fun a'' w2 => Only bs w' w2 ∧ RotS R (fun j => if j = i then true else f j) a'' w2 ∧ ∃ v, a'' = a'.put o.dst v ∧ V i v w2) a' w' := by
  refine wpOp_value v hi hw hr ⟨Only.of_below hb _, ⟨fun h => ?_, ?_⟩, v, rfl, hv⟩
  · have h8 : f 5 = true := by
      have : ¬ (5 = i) := fun e => hn (by rw [← e]; decide)
      simpa [this] using h
    show (if 1 = i then true else f 1) = true
    split
    · rfl
    · exact hS.1 h8
  · rw [getD_put _ _ _ _ hd]
    exact hS.2.quiet hn (fun k => hR k _ w' w'' hb)
theorem rot_call (fn : FuncId) (args : Array Value) (hi : ops[i]? = some o) (hw : Region.wanted o (yielded ops a'.tmps) = true) (hr : (execOp a'.eval o).run P w' = .ok (.enter fn args) w') (hk : [3, 5, 7][k]? = some i) (hf : f i = false) (hp : ∀ c, k ≠ 0 → [3, 5, 7][k - 1]? = some c → f c = true) (h8 : i ≠ 5) (hd : o.dst ≠ some 34)
    (hS : RotS R f a' w') (h : R k (a'.tmps.getD 34 undef) w' → Calls P fn args w' fun e w2 => ∃ v, e = .returned v ∧ Only bs w' w2 ∧ R (k + 1) (a'.tmps.getD 34 undef) w2 ∧ V i v w2) :
    wpOp P ops Q i (fun a'' w2 => Only bs w' w2 ∧ RotS R (fun j => if j = i then true else f j) a'' w2 ∧ ∃ v, a'' = a'.put o.dst v ∧ V i v w2) a' w' := by
  obtain ⟨h1, h2⟩ := hS.2.at hk hf hp
  refine wpOp_call fn args hi hw hr ((h h1).mono fun _ _ ⟨v, he, hg, hR, hv⟩ => ⟨v, he, hg, ⟨fun h => ?_, ?_⟩, v, rfl, hv⟩)
  · have h9 : f 5 = true := by simpa [Ne.symm h8] using h
    show (if 1 = i then true else f 1) = true
    split
    · rfl
    · exact hS.1 h9
  · rw [getD_put _ _ _ _ hd]
    exact SeqS.next hk (by decide) h2 hR
theorem getD_put_self (a : Act) (v : Value) (t : Tmp) (h : t < a.tmps.size) : (a.put (some t) v).tmps.getD t undef = v := by simp [Act.put, h]
theorem rot_app (v : Value) (hi : ops[5]? = some o) (hw : Region.wanted o (yielded ops a'.tmps) = true) (hr : (execOp a'.eval o).run P w' = .ok (.value v) w'') (ho : Only bs w' w'') (hf : f 5 = false) (h5 : f 3 = true) (h1 : f 1 = true) (hd : o.dst = some 34) (hsz : 34 < a'.tmps.size)
    (hS : RotS R f a' w') (hR : R 2 v w'') (hv : V 5 v w'') :
    wpOp P ops Q 5 (fun a'' w2 => Only bs w' w2 ∧ RotS R (fun j => if j = 5 then true else f j) a'' w2 ∧ ∃ v, a'' = a'.put o.dst v ∧ V 5 v w2) a' w' := by
  obtain ⟨_, h2⟩ := hS.2.at (k := 1) (i := 5) rfl hf (fun c _ hc => by cases hc; exact h5)
  refine wpOp_value v hi hw hr ⟨ho, ⟨fun _ => ?_, ?_⟩, v, rfl, hv⟩
  · exact h1
  · rw [hd, getD_put_self _ _ _ hsz]
    exact SeqS.next (k := 1) rfl (by decide) h2 hR
theorem wpOp_skip {K : Act → World → Prop} (hi : ops[i]? = some o) (hw : Region.wanted o (yielded ops a'.tmps) = true) (hr : (execOp a'.eval o).run P w' = .ok .skip w'') (h : K (a'.put o.dst undef) w'') : wpOp P ops Q i K a' w' := by
  unfold wpOp
  simp only [hi, hw, if_true]
  refine .inl ?_
  unfold Oper.wp
  rw [hr]
  exact h
theorem rot_sto (hi : ops[7]? = some o) (hw : Region.wanted o (yielded ops a'.tmps) = true) (hr : (execOp a'.eval o).run P w' = .ok .skip w'') (ho : Only bs w' w'') (hf : f 7 = false) (h8 : f 5 = true) (hd : o.dst = none)
    (hS : RotS R f a' w') (hR : R 3 (a'.tmps.getD 34 undef) w'') (hv : V 7 undef w'') :
    wpOp P ops Q 7 (fun a'' w2 => Only bs w' w2 ∧ RotS R (fun j => if j = 7 then true else f j) a'' w2 ∧ ∃ v, a'' = a'.put o.dst v ∧ V 7 v w2) a' w' := by
  obtain ⟨_, h2⟩ := hS.2.at (k := 2) (i := 7) rfl hf (fun c _ hc => by cases hc; exact h8)
  refine wpOp_skip hi hw hr ⟨ho, ⟨fun h => ?_, ?_⟩, undef, rfl, hv⟩
  · exact hS.1 (by simpa using h)
  · rw [hd]
    exact SeqS.next (k := 2) rfl (by decide) h2 hR
/-- What stands ahead of the store. -/
theorem rot_three (hS : RotS R f a' w') (hf : f 7 = false) (h8 : f 5 = true) : R 2 (a'.tmps.getD 34 undef) w' := (hS.2.at (k := 2) (i := 7) rfl hf (fun c _ hc => by cases hc; exact h8)).1
theorem rot_two (hS : RotS R f a' w') (hf : f 5 = false) (h5 : f 3 = true) : R 1 (a'.tmps.getD 34 undef) w' := (hS.2.at (k := 1) (i := 5) rfl hf (fun c _ hc => by cases hc; exact h5)).1
theorem rot_early (hS : RotS R f a' w') (hf : f 1 = false) : ∃ k, k ≤ 1 ∧ R k (a'.tmps.getD 34 undef) w' := by
  have h8 : f 5 = false := by
    cases h : f 5 with
    | false => rfl
    | true => rw [hS.1 h] at hf; cases hf
  obtain ⟨k, _, h2, h3⟩ := hS.2
  refine ⟨k, ?_, h3⟩
  have := h2 1 5 rfl
  rw [h8] at this
  have h4 : ¬ 1 < k := fun h => by have := this.2 h; cases this
  omega
end
section
variable {o : Oper} {a' : Act} {w' : World}
theorem meth_run (fn : Nat) (t : Tmp) (c x y : Value) (ox oy : Operand) (ho : o.op = .call { callee := .value (.tmp t), args := #[ox, oy], argTypes := #[3, 3] }) (h0 : a'.tmps.getD t undef = .func (.func fn) #[c] #[]) (hx : a'.eval ox = x) (hy : a'.eval oy = y) (hc : (callFunc fn #[c, x, y]).run Try.prog w' = .ok (.enter fn #[c, x, y]) w') :
    (execOp a'.eval o).run Try.prog w' = .ok (.enter fn #[c, x, y]) w' := by
  have he : a'.eval (.tmp t) = .func (.func fn) #[c] #[] := h0
  unfold execOp
  simp only [ho]
  generalize a'.eval = r at *
  simp [resolve, invoke, he, hx, hy, go_sem, hc]
theorem bs_run (t : Tmp) (p : Option Addr) (l c : Nat) (ho : o.op = .buildSlice 31 1 #[(0, .tmp t)]) (h0 : a'.tmps.getD t undef = .slice p l c) :
    (execOp a'.eval o).run Try.prog w' = .ok (.value (.slice (some ⟨w'.heap.size, 0, none⟩) 1 1)) (w'.alloc (.cells #[.slice p l c] 32)) := by
  have he : a'.eval (.tmp t) = .slice p l c := h0
  unfold execOp
  simp only [ho]
  generalize a'.eval = r at *
  simp [he, go_sem]
theorem call26 (c x y : Value) (w : World) : (callFunc 37 #[c, x, y]).run Try.prog w = .ok (.enter 37 #[c, x, y]) w := by kernel_rfl
theorem fa25_3 (b : Nat) (w : World) : (Instr.fieldAt 34 (.pointer (some ⟨b, 0, none⟩)) 3).run Try.prog w = .ok (.pointer (some ⟨b, 3, none⟩)) w := by simp [go_sem]
theorem ld22s {b k : Nat} {q : Option Addr} {n c : Nat} {w : World} (h : w.cell? ⟨b, k, none⟩ = some (.slice q n c)) : (Instr.loadAt 31 (.pointer (some ⟨b, k, none⟩))).run Try.prog w = .ok (.slice q n c) w := by simp [go_sem, h]
theorem st_run (t u : Tmp) (b k : Nat) (q : Option Addr) (n c : Nat) (x : Value) (ho : o.op = .store 31 (.tmp t) (.tmp u)) (h0 : a'.tmps.getD t undef = .pointer (some ⟨b, k, none⟩)) (h1 : a'.tmps.getD u undef = .slice q n c) (hc : w'.cell? ⟨b, k, none⟩ = some x) (hf : w'.frozen? ⟨b, k, none⟩ = false) :
    (execOp a'.eval o).run Try.prog w' = .ok .skip (w'.setCell ⟨b, k, none⟩ (.slice q n c)) := by
  have he : a'.eval (.tmp t) = .pointer (some ⟨b, k, none⟩) := h0
  have hg : a'.eval (.tmp u) = .slice q n c := h1
  unfold execOp
  simp only [ho]
  generalize a'.eval = r at *
  simp [he, hg, go_sem, hc, hf]
end
theorem app_run {o : Oper} {a' : Act} {w' : World} (t u : Tmp) (base j : Nat) (sl : Value) (xs : List Value) (g : Nat) (p : Option Addr) (l c : Nat) (ho : o.op = .call { callee := .builtin .append, args := #[.tmp t, .tmp u], argTypes := #[31, 31] }) (h0 : a'.tmps.getD t undef = sl) (h1 : a'.tmps.getD u undef = .slice (some ⟨g, 0, none⟩) 1 1)
    (hown : w'.ownsRow base 32 1 sl j xs) (hg : w'.heap[g]? = some (.cells #[.slice p l c] 32 (0, 0))) (hj : j ≤ 100) (hb : base ≤ w'.heap.size) :
    ∃ v w'', (execOp a'.eval o).run Try.prog w' = .ok (.value v) w'' ∧ w''.ownsRow base 32 1 v (j + 1) (xs ++ [.slice p l c]) ∧ w'.grownBy w'' sl.ownBlock := by
  have he : a'.eval (.tmp t) = sl := h0
  have hf : a'.eval (.tmp u) = .slice (some ⟨g, 0, none⟩) 1 1 := h1
  obtain ⟨i, hi, hsz, hby, hz⟩ := info23e
  obtain ⟨v, w'', hr, k1, k2, _, _⟩ := run_append_own_at (P := Try.prog) w' base 31 o.type 32 i _ 1 24 Try.underlying31 hi hz hsz hby rfl (by decide) sl j xs hown ⟨g, 0, none⟩ 1 1 [.slice p l c] rfl (fun m y hy => by rw [Addr.add_mid, Nat.zero_add, cell_of_row _ _ _ _ _ _ hg]; simpa using hy) (fun y hy => by rw [List.mem_singleton.1 hy]; rfl) (by unfold maxLen; omega) (by omega) hb
  refine ⟨v, w'', ?_, k1, k2⟩
  unfold execOp
  simp only [ho, resolve, invoke, builtin, Sem.run_bind, Sem.run_pure, Result.andThen_ok, List.map_toArray, List.map_cons, List.map_nil, he, hf, hr]
theorem rotR_row {w : World} {p B b7 : Nat} {CE : Value → Array Value} {sl : Value} {s s' : Sta} {j : Nat} {xs : List Value} {ws ws' : List (List Nat)} {k : Nat} {v : Value} {u : World} (hk : k ≤ 1) (h : RotR w p B b7 CE sl s s' j xs ws ws' k v u) : u.heap[b7]? = some (.cells (CE sl) 34 (0, 0)) := by
  match k, hk, h with
  | 0, _, h => exact h.2.1
  | 1, _, h => exact h.2.1
theorem rot_keep {p A B b7 j : Nat} {u u' : World} {c : Array Value} {sl : Value} {xs : List Value} {ws : List (List Nat)} (h1 : u.heap[b7]? = some (.cells c 34 (0, 0))) (h2 : u.ownsRow (b7 + 1) 32 1 sl j xs) (h3 : AreL u p A B xs ws) (ho : Only [p] u u') (hp : p < b7) :
    u'.heap[b7]? = some (.cells c 34 (0, 0)) ∧ u'.ownsRow (b7 + 1) 32 1 sl j xs ∧ AreL u' p A B xs ws :=
  ⟨(ho.block b7 (Array.getElem?_eq_some_iff.1 h1).1 (by simp; omega)).trans h1, own_only h2 ho (own_off h2 (by simp; omega)), h3.turn (fun v t ht => ht.only ho)⟩
end Go.Proofs.Ytchoiioeeepoaaa.F17
