/- Steps of drawn regions: bytes and strings that their operations leave behind; makes, slices of arrays, appends, tags. -/
import Derived.Test.YtnceiccciaihoaaUse
import Derived.Test.YtnceiccciaihoaaP4Math
import Derived.Test.YtnceiccciaihoaaP4Open
namespace Go.Proofs.Ytnceiccciaihoaa.P4
open Go.RowKit
def StrV (l : List Nat) (v : Value) (_ : World) : Prop := v = .string (strB l)
/-- A slice that reads as these bytes. -/
def RowV (l : List Nat) (v : Value) (w : World) : Prop := (∃ b o c, v = .slice (some ⟨b, o, none⟩) l.length c ∧ w.rangeAt b o (ints .u8 l)) ∨ ∃ p c, v = .slice p 0 c ∧ l = []
theorem RowV.kept {l : List Nat} {v : Value} {w w' : World} (h : RowV l v w) (hb : Below w.heap.size w w') : RowV l v w' := by
  rcases h with ⟨b, o, c, rfl, h1⟩ | ⟨p, c, rfl, rfl⟩
  · exact .inl ⟨b, o, c, rfl, rangeAt_below hb h1⟩
  · exact .inr ⟨p, c, rfl, rfl⟩
theorem TextIs.rowV {w : World} {p : Option Addr} {l : List Nat} {n c : Nat} (h : TextIs w p l) (hl : l.length = n) : RowV l (.slice p n c) w := by
  by_cases h0 : l = []
  · subst h0
    exact .inr ⟨p, c, by rw [← hl]; rfl, rfl⟩
  · obtain ⟨b, o, rfl, hr⟩ := h.2 h0
    exact .inl ⟨b, o, c, by rw [hl], hr⟩
theorem conv_empty (w : World) (p : Option Addr) (c : Nat) : (convert 22 9 (.slice p 0 c)).run Try.prog w = .ok (.string (strB [])) w := by
  rw [run_convert_bytes_string w 22 9 5 _ _ _ Try.underlying22 Try.underlying5 Try.underlying9]
  cases p with
  | none => rfl
  | some a => exact run_bytesToString w a 0 c [] (by rfl)
theorem conv_run {o : Oper} {a' : Act} {w' : World} {l : List Nat} (t : Tmp) (ho : o.op = .convert 22 9 (.tmp t)) (h : RowV l (a'.tmps.getD t undef) w') :
    (execOp a'.eval o).run Try.prog w' = .ok (.value (.string (strB l))) w' := by
  rcases h with ⟨b, of, c, hv, hr⟩ | ⟨p, c, hv, rfl⟩
  · have hc := run_conv w' b of c l hr
    unfold execOp
    simp only [ho, Act.eval, hv, Sem.run_bind, hc, Result.andThen_ok, Sem.run_pure]
  · have hc := conv_empty w' p c
    unfold execOp
    simp only [ho, Act.eval, hv, Sem.run_bind, hc, Result.andThen_ok, Sem.run_pure]
theorem eq_run {o : Oper} {a' : Act} {w' : World} {s : ByteArray} (t u : Tmp) (ho : o.op = .binOp .eql 9 (.tmp t) (.tmp u) 9) (h0 : a'.tmps.getD t undef = .string s) (h1 : a'.tmps.getD u undef = .string s) :
    (execOp a'.eval o).run Try.prog w' = .ok (.value (.bool true)) w' := by
  unfold execOp
  simp only [ho, Act.eval, h0, h1]
  simp [go_sem]
theorem eqe_run {o : Oper} {a' : Act} {w' : World} (t : Tmp) (ho : o.op = .binOp .eql 24 (.tmp t) (.const (.int .i64 0)) 24) (h0 : a'.tmps.getD t undef = .int .i64 0) :
    (execOp a'.eval o).run Try.prog w' = .ok (.value (.bool true)) w' := by
  unfold execOp
  simp only [ho, Act.eval, h0]
  simp [go_sem]
theorem pick_step {o : Oper} {a' : Act} {w' : World} {t u : Tmp} {r : Operand} (h0 : a'.tmps.getD t undef = .bool true) (h1 : a'.tmps.getD u undef = .bool true) (ho : o.op = .pick (.tmp t) (.tmp u) r) :
    (execOp a'.eval o).run Try.prog w' = .ok (.value (.bool true)) w' := by
  unfold execOp
  simp only [ho, Act.eval, h0, h1]
  simp [go_sem]
theorem make_bytes (l c : Nat) (k : IntKind) (hlc : l ≤ c) (hc : c ≤ 281474976710656) (w : World) :
    (Instr.makeSlice 22 (.int k (l : Int)) (.int k (c : Int))).run Try.prog w = .ok (.slice (some ⟨w.heap.size, 0, none⟩) l c) (w.alloc (.cells (arr .u8 (List.replicate c 0)) 5)) := by
  obtain ⟨i, hi, hs, hb, hz⟩ := info5e
  have := run_make (P := Try.prog) w 22 5 i _ Try.underlying22 hi hz k k (l : Int) (c : Int) (by omega) (by omega) (by rw [hb]; omega) (by omega)
  rw [this, hs, ← made_zeros]
  simp [Value.cells]
theorem arr30 : Try.prog.arrayLen 64 = 16 := by kernel_rfl
theorem arr32 : Try.prog.arrayLen 31 = 32 := by kernel_rfl
theorem elem30 : Try.prog.elem 64 = 5 := by kernel_rfl
theorem elem32 : Try.prog.elem 31 = 5 := by kernel_rfl
theorem slice30_run {o : Oper} {a' : Act} {w' : World} {g : Nat} (t : Tmp) (ho : o.op = .slice 64 (.tmp t) none none none) (h0 : a'.tmps.getD t undef = .pointer (some ⟨g, 0, none⟩)) :
    (execOp a'.eval o).run Try.prog w' = .ok (.value (.slice (some ⟨g, 0, none⟩) 16 16)) w' := by
  have e0 : a'.eval (.tmp t) = .pointer (some ⟨g, 0, none⟩) := h0
  obtain ⟨i, hi, hsz, _, _⟩ := info5e
  have hrun := run_sliceAt_array_all (P := Try.prog) w' 64 ⟨g, 0, none⟩ under30
  rw [arr30, elem30] at hrun
  unfold execOp
  simp only [ho]
  generalize a'.eval = r at *
  simp [e0, hrun, sizeOf, typeInfo, hi, hsz, slicedAt, Addr.add_lit]
theorem slice32_run {o : Oper} {a' : Act} {w' : World} {g : Nat} (t : Tmp) (ho : o.op = .slice 31 (.tmp t) none none none) (h0 : a'.tmps.getD t undef = .pointer (some ⟨g, 0, none⟩)) :
    (execOp a'.eval o).run Try.prog w' = .ok (.value (.slice (some ⟨g, 0, none⟩) 32 32)) w' := by
  have e0 : a'.eval (.tmp t) = .pointer (some ⟨g, 0, none⟩) := h0
  obtain ⟨i, hi, hsz, _, _⟩ := info5e
  have hrun := run_sliceAt_array_all (P := Try.prog) w' 31 ⟨g, 0, none⟩ under32
  rw [arr32, elem32] at hrun
  unfold execOp
  simp only [ho]
  generalize a'.eval = r at *
  simp [e0, hrun, sizeOf, typeInfo, hi, hsz, slicedAt, Addr.add_lit]
theorem make16_run {o : Oper} {a' : Act} {w' : World} (ho : o.op = .makeSlice 22 (.const (.int .i64 16)) (.const (.int .i64 16))) :
    (execOp a'.eval o).run Try.prog w' = .ok (.value (.slice (some ⟨w'.heap.size, 0, none⟩) 16 16)) (w'.alloc (.cells (arr .u8 (List.replicate 16 0)) 5)) := by
  have := make_bytes 16 16 .i64 (by decide) (by decide) w'
  unfold execOp
  simp only [ho, Act.eval]
  simp at this
  simp [this]
theorem own_made {w : World} {base n : Nat} (hb : base ≤ w.heap.size) (hn : n ≤ 100000) : (w.alloc (.cells (arr .u8 (List.replicate n 0)) 5)).ownsRow base 5 1 (.slice (some ⟨w.heap.size, 0, none⟩) n n) n (ints .u8 (List.replicate n 0)) := by
  refine ⟨by rw [ints_length]; simp, .inr ⟨w.heap.size, n, _, rfl, hb, heap_alloc_new w _, Nat.le_refl _, by unfold maxLen; omega, by rw [arr_size]; simp, ?_⟩⟩
  rw [arr_list, List.take_of_length_le (by rw [ints_length]; simp)]
/-- An append to a row of one's own. -/
theorem append_run {o : Oper} {a' : Act} {w : World} (st xt : Tmp) (ho : o.op = .call { callee := .builtin .append, args := #[.tmp st, .tmp xt], argTypes := #[22, 22] })
    (base : Nat) (v : Value) (n : Nat) (l : List Nat) (g of c m : Nat) (news : List Nat) (hs : a'.tmps.getD st undef = v) (hx : a'.tmps.getD xt undef = .slice (some ⟨g, of, none⟩) m c) (hm : news.length = m) (hown : w.ownsRow base 5 1 v n (ints .u8 l)) (hr : w.rangeAt g of (ints .u8 news))
    (hn : n + m ≤ 100000) (hbase : base ≤ w.heap.size) : ∃ v' w', (execOp a'.eval o).run Try.prog w = .ok (.value v') w' ∧ w'.ownsRow base 5 1 v' (n + m) (ints .u8 (l ++ news)) ∧ w.grownBy w' v.ownBlock := by
  obtain ⟨i, hi, hsz, hby, hz⟩ := info5e
  have e0 : a'.eval (.tmp st) = v := hs
  have e1 : a'.eval (.tmp xt) = .slice (some ⟨g, of, none⟩) m c := hx
  obtain ⟨v', w', hrun, r1, r2, _⟩ := run_append_own (P := Try.prog) w base 22 o.type 5 i _ 1 1 Try.underlying22 hi hz hsz hby rfl (by decide) v n (ints .u8 l) hown ⟨g, of, none⟩ m c (ints .u8 news) (by rw [ints_length]; omega) (fun j u hu => by rw [Addr.add_mid]; exact hr j u hu) (fun u hu => by obtain ⟨q, _, rfl⟩ := List.mem_map.1 hu; rfl) (by unfold maxLen; omega) (by omega) hbase
  refine ⟨v', w', ?_, by rw [ints_append]; exact r1, r2⟩
  unfold execOp
  simp only [ho]
  generalize a'.eval = r at *
  simp [resolve, invoke, builtin, e0, e1, hrun, Result.andThen]
theorem su_append {ops : Array Oper} {Q : Exit → Act → World → Prop} {V : Nat → Value → World → Prop} {S : Nat → World → World → Prop} {i : Nat} {o : Oper} {a' : Act} {w : World} (st xt : Tmp) (hi : ops[i]? = some o) (hgd : o.guard = none) (ho : o.op = .call { callee := .builtin .append, args := #[.tmp st, .tmp xt], argTypes := #[22, 22] })
    (base : Nat) (v : Value) (n : Nat) (l : List Nat) (g of c m : Nat) (news : List Nat) (hs : a'.tmps.getD st undef = v) (hx : a'.tmps.getD xt undef = .slice (some ⟨g, of, none⟩) m c) (hm : news.length = m) (hown : w.ownsRow base 5 1 v n (ints .u8 l)) (hr : w.rangeAt g of (ints .u8 news))
    (hn : n + m ≤ 100000) (hbase : base ≤ w.heap.size) (h : ∀ v' w', w'.ownsRow base 5 1 v' (n + m) (ints .u8 (l ++ news)) → w.grownBy w' v.ownBlock → S i w w' ∧ V i v' w') :
    wpOp Try.prog ops Q i (fun a'' w2 => S i w w2 ∧ ∃ v, a'' = a'.put o.dst v ∧ V i v w2) a' w := by
  obtain ⟨v', w', hrun, h1, h2⟩ := append_run st xt ho base v n l g of c m news hs hx hm hown hr hn hbase
  obtain ⟨h3, h4⟩ := h v' w' h1 h2
  exact su_value v' hi (wanted_none hgd) hrun h3 h4
theorem extract_run {o : Oper} {a' : Act} {w' : World} {vs : Array Value} (t : Tmp) (k : Nat) (ho : o.op = .extract (.tmp t) k) (h0 : a'.tmps.getD t undef = .tuple vs) (hk : k < vs.size) :
    (execOp a'.eval o).run Try.prog w' = .ok (.value (vs.getD k undef)) w' := by
  have e0 : a'.eval (.tmp t) = .tuple vs := h0
  unfold execOp
  simp only [ho]
  generalize a'.eval = r at *
  simp [e0, Instr.extract, hk]
/-- What Tag leaves: the bytes of a tag. -/
def TagV (T : List Nat) (v : Value) (w : World) : Prop := ∃ b c, v = .slice (some ⟨b, 0, none⟩) 16 c ∧ w.rangeAt b 0 (ints .u8 T)
def PairV (T : List Nat) (v : Value) (w : World) : Prop := ∃ t, v = .tuple #[t, .int .i64 0] ∧ TagV T t w
theorem TagV.kept {T : List Nat} {v : Value} {w w' : World} (h : TagV T v w) (hb : Below w.heap.size w w') : TagV T v w' := by
  obtain ⟨b, c, rfl, h1⟩ := h
  exact ⟨b, c, rfl, rangeAt_below hb h1⟩
theorem PairV.kept {T : List Nat} {v : Value} {w w' : World} (h : PairV T v w) (hb : Below w.heap.size w w') : PairV T v w' := by
  obtain ⟨t, rfl, h1⟩ := h
  exact ⟨t, rfl, h1.kept hb⟩
/-- A key of 32 bytes that a slice leads to. -/
def KeyV (key : List Nat) (v : Value) (w : World) : Prop := ∃ b of c, v = .slice (some ⟨b, of, none⟩) 32 c ∧ 32 ≤ c ∧ w.rangeAt b of (ints .u8 key)
theorem KeyV.kept {T : List Nat} {v : Value} {w w' : World} (h : KeyV T v w) (hb : Below w.heap.size w w') : KeyV T v w' := by
  obtain ⟨b, o, c, rfl, hc, h1⟩ := h
  exact ⟨b, o, c, rfl, hc, rangeAt_below hb h1⟩
theorem tag_call {key text : List Nat} {kv : Value} {pt : Option Addr} {n ct : Nat} {w : World} (hK : KeyV key kv w) (hk : key.length = 32) (hkb : ∀ x ∈ key, x < 256) (hT : TextIs w pt text) (htl : text.length = n) (hn : n ≤ 100000) (hc : n ≤ ct) :
    Calls Try.prog 16 #[kv, .slice pt n ct] w fun e w' => ∃ v, e = .returned v ∧ Below w.heap.size w w' ∧ PairV (Po.tag key text) v w' := by
  obtain ⟨b, o, c, rfl, hc', hr⟩ := hK
  refine (tag_ok key text b o c n ct pt w hk hkb hr hc' hT htl (by omega) hc).mono ?_
  rintro e w' ⟨v, rfl, ho, hb⟩
  obtain ⟨g, c, rfl, _, _, _, hr'⟩ := own_cell ho (by decide)
  exact ⟨_, rfl, hb, _, rfl, g, c, rfl, hr'⟩
theorem own_key {w : World} {base : Nat} {v : Value} {key : List Nat} (h : w.ownsRow base 5 1 v 32 (ints .u8 key)) : KeyV key v w := by
  obtain ⟨g, c, rfl, _, _, hc, hr⟩ := own_cell h (by decide)
  exact ⟨g, 0, c, rfl, hc, hr⟩
/-- Appends write above the base alone. -/
theorem below_append {base : Nat} {w w' : World} {v : Value} {n : Nat} {xs : List Value} (hown : w.ownsRow base 5 1 v n xs) (hg : w.grownBy w' v.ownBlock) (hb : base ≤ w.heap.size) : Below base w w' :=
  below_grown' (Below.refl _ _) hg hown hb (Nat.le_refl _)
end Go.Proofs.Ytnceiccciaihoaa.P4
