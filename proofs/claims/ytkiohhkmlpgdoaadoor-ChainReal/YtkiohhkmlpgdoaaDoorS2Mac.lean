/- Bytes as a string, and back; steps of regions. -/
import Derived.Test.YtkiohhkmlpgdoaaDoorS2Own
import Derived.Test.YtkiohhkmlpgdoaaDoorInv
import Derived.OpenShut
import Derived.Laws.AppendOwnNone
import Derived.WalkMore
namespace Go.Proofs.YtkiohhkmlpgdoaaDoor.S2
open Go.Proofs.YtkiohhkmlpgdoaaDoor.Sp
open Go.RowKit
def strB (l : List Nat) : ByteArray := (l.map (fun (n : Nat) => (n : Int))).foldl (fun r n => r.push (UInt8.ofNat n.toNat)) ByteArray.empty
theorem run_conv (w : World) (b o c : Nat) (l : List Nat) (h : w.rangeAt b o (ints .u8 l)) : (convert 23 9 (.slice (some ⟨b, o, none⟩) l.length c)).run Tryd.prog w = .ok (.string (strB l)) w := by
  rw [run_convert_bytes_string w 23 9 5 _ _ _ Tryd.underlying23 Tryd.underlying5 Tryd.underlying9]
  have hl : (loadCells ⟨b, o, none⟩ (ints .u8 l).length).run Tryd.prog w = .ok (ints .u8 l).toArray w :=
    run_loadCells_list (P := Tryd.prog) w ⟨b, o, none⟩ (ints .u8 l) (fun j v hv => by rw [Addr.add_mid]; exact h j v hv)
  rw [ints_length] at hl
  have e : (ints .u8 l) = (l.map (fun (n : Nat) => (n : Int))).map (Value.int .u8) := by simp [ints]
  rw [e] at hl
  exact run_bytesToString w ⟨b, o, none⟩ l.length c _ hl
theorem conv_row {w : World} {b : Nat} {l : List Nat} {n : Nat} (c : Nat) (hl : l.length = n) (h : w.heap[b]? = some (.cells (arr .u8 l) 5 (0, 0))) : (convert 23 9 (.slice (some ⟨b, 0, none⟩) n c)).run Tryd.prog w = .ok (.string (strB l)) w := by
  subst hl
  exact run_conv w b 0 c l (rangeAt_of_row h)
theorem sum_length (m : List Nat) : (Sp.sum m).length = 32 := by
  unfold Sp.sum
  rw [Sp.bytesTo_length _ 8 (by show 8 ≤ 8; omega)]
theorem partsAt_one {w : World} {v : Value} {l : List Nat} {b c : Nat} (h : BytesAt w v l) (hc : w.cell? ⟨b, 0, none⟩ = some v) : PartsAt w (.slice (some ⟨b, 0, none⟩) 1 c) [l] := by
  refine .inr ⟨b, 0, c, [v], rfl, by simp, fun j u hu => ?_, fun i l' hl => ?_⟩
  · cases j with
    | zero => simp at hu; subst hu; exact hc
    | succ j => simp at hu
  · cases i with
    | zero => simp at hl; subst hl; exact ⟨v, rfl, h⟩
    | succ i => simp at hl
theorem heap_freeze_same (w : World) (g o n : Nat) (cs : Array Value) (t : TypeId) (fr : Nat × Nat) (h : w.heap[g]? = some (.cells cs t fr)) : ∃ fr', (w.freeze ⟨g, o, none⟩ n).heap[g]? = some (.cells cs t fr') := by
  unfold World.freeze
  split
  · exact ⟨fr, h⟩
  · obtain ⟨lo, hi⟩ := fr
    apply Exists.intro
    simp only [Array.getElem?_modify, if_true, h, Option.map_some]
    rfl
theorem heap_freeze_other (w : World) (g o n k : Nat) (h : k ≠ g) : (w.freeze ⟨g, o, none⟩ n).heap[k]? = w.heap[k]? := by
  unfold World.freeze
  split
  · rfl
  · simp only [Array.getElem?_modify]
    rw [if_neg (fun e => h e.symm)]
theorem size_freeze (w : World) (a : Addr) (n : Nat) : (w.freeze a n).heap.size = w.heap.size := by
  unfold World.freeze
  split <;> simp
theorem freeze_keeps (w : World) (a : Addr) (n : Nat) : (w.freeze a n).os = w.os ∧ (w.freeze a n).tape = w.tape ∧ (w.freeze a n).output = w.output := by
  unfold World.freeze
  split <;> exact ⟨rfl, rfl, rfl⟩
theorem conv_lit (w : World) (cs : Array Value) : ∃ w1, (convert 23 23 (.slice (some ⟨w.heap.size, 0, none⟩) cs.size cs.size)).run Tryd.prog (w.alloc (.cells cs 5)) = .ok (.slice (some ⟨w.heap.size, 0, none⟩) cs.size cs.size) w1 ∧
    (∃ fr, w1.heap[w.heap.size]? = some (.cells cs 5 fr)) ∧ Below w.heap.size w w1 ∧ w1.heap.size = w.heap.size + 1 := by
  have h0 := heap_alloc_new w (.cells cs 5)
  have hsh : (w.alloc (.cells cs 5)).shape? w.heap.size = some (5, cs.size) := by
    unfold World.shape?
    rw [h0]
  refine ⟨(w.alloc (.cells cs 5)).freeze ⟨w.heap.size, cs.size, none⟩ 1, ?_, heap_freeze_same _ _ _ _ _ _ _ h0, ?_, ?_⟩
  · simp [convert, run_underlying Tryd.underlying23, run_underlying Tryd.underlying5, markStringish, hsh]
  · obtain ⟨e1, e2, e3⟩ := freeze_keeps (w.alloc (.cells cs 5)) ⟨w.heap.size, cs.size, none⟩ 1
    refine ⟨e1, e2, e3, by rw [size_freeze]; simp, fun k hk => ?_⟩
    rw [heap_freeze_other _ _ _ _ _ (by omega)]
    exact Below.heap_alloc w _ k hk
  · rw [size_freeze]; simp
section
variable {P : Program} {ops : Array Oper} {Q : Exit → Act → World → Prop} {V : Nat → Value → World → Prop} {G : World → World → Prop}
theorem st_value {i : Nat} {o : Oper} {a' : Act} {w' w'' : World} (v : Value) (hi : ops[i]? = some o) (hw : Region.wanted o (yielded ops a'.tmps) = true)
    (hr : (execOp a'.eval o).run P w' = .ok (.value v) w'') (hg : G w' w'') (hv : V i v w'') : wpOp P ops Q i (fun a'' w2 => G w' w2 ∧ ∃ v, a'' = a'.put o.dst v ∧ V i v w2) a' w' :=
  wpOp_value v hi hw hr ⟨hg, v, rfl, hv⟩
theorem st_call {i : Nat} {o : Oper} {a' : Act} {w' : World} (f : FuncId) (args : Array Value) (hi : ops[i]? = some o) (hw : Region.wanted o (yielded ops a'.tmps) = true)
    (hr : (execOp a'.eval o).run P w' = .ok (.enter f args) w') (h : Calls P f args w' fun e w2 => ∃ v, e = .returned v ∧ G w' w2 ∧ V i v w2) : wpOp P ops Q i (fun a'' w2 => G w' w2 ∧ ∃ v, a'' = a'.put o.dst v ∧ V i v w2) a' w' :=
  wpOp_call f args hi hw hr (h.mono fun _ _ ⟨v, he, hg, hv⟩ => ⟨v, he, hg, v, rfl, hv⟩)
def notDst (ops : Array Oper) (t : Tmp) : Bool := (List.range ops.size).all fun i => !((ops[i]?).bind (·.dst) == some t)
theorem notDst_spec {t : Tmp} (h : notDst ops t = true) (i : Nat) : (ops[i]?).bind (·.dst) ≠ some t := fun e => by
  have hlt : i < ops.size := by
    cases ho : ops[i]? with
    | none => simp [ho] at e
    | some oj => exact (Array.getElem?_eq_some_iff.1 ho).1
  have := List.all_eq_true.1 h i (List.mem_range.2 hlt)
  simp [e] at this
def waits (o : Oper) (j : Nat) : Bool := o.after.any fun e => Region.binds .any e && e.on == j
theorem pre_of {o : Oper} {a' : Act} {w' : World} (hpre : ∀ e ∈ o.after, Region.binds .any e = true → ∀ d, (ops[e.on]?).bind (·.dst) = some d → V e.on (a'.tmps.getD d undef) w') (j : Nat) (d : Tmp)
    (h : waits o j = true) (hd : (ops[j]?).bind (·.dst) = some d) : V j (a'.tmps.getD d undef) w' := by
  obtain ⟨e, he, hb⟩ := Array.any_eq_true'.1 h
  simp only [Bool.and_eq_true, beq_iff_eq] at hb
  obtain ⟨h1, rfl⟩ := hb
  exact hpre e he h1 d hd
theorem wanted_of {o : Oper} {a' : Act} (j : Nat) (d : Tmp) (hg : o.guard = some (j, true)) (hd : (ops[j]?).bind (·.dst) = some d) (hv : a'.tmps.getD d undef = .bool true) : Region.wanted o (yielded ops a'.tmps) = true := by
  have hsome : a'.tmps[d]? = some (.bool true) := by
    cases h : a'.tmps[d]? with
    | none => simp [h, undef] at hv
    | some x => simpa [h] using hv
  simp [Region.wanted, hg, yielded, hd, hsome]
end
/-- A slice of bytes that came in: it is empty with no room; or it leads to a row of bytes. -/
def RowIs (w : World) (a : Option Addr) (len cap : Nat) : Prop :=
  (len = 0 ∧ cap = 0) ∨ ∃ b o l, a = some ⟨b, o, none⟩ ∧ l.length = len ∧ len ≤ cap ∧ cap ≤ 9223372036854775807 ∧ (∀ x ∈ l, x < 256) ∧ w.rangeAt b o (ints .u8 l) ∧ b < w.heap.size
theorem rowIs_nil (w : World) (a : Option Addr) : RowIs w a 0 0 := .inl ⟨rfl, rfl⟩
theorem rowIs_of {w : World} {x : Addr} {len cap : Nat} {zs : List Int} (hl : len ≤ cap) (hm : cap ≤ maxLen) (hz : zs.length = cap)
    (hcell : ∀ i, i < zs.length → w.cell? (x.add i) = some (.int .u8 (zs.getD i 0))) (hwz : ∀ n ∈ zs, (Lit.int .u8 n).wf = true) : RowIs w (some x) len cap := by
  by_cases hc : cap = 0
  · exact .inl ⟨by omega, hc⟩
  · have h0 := hcell 0 (by omega)
    have hx0 : x.add 0 = x := by obtain ⟨b, o, s⟩ := x; unfold Addr.add; split <;> simp_all
    have hsp : x.spot = none := by
      rw [hx0] at h0
      cases hs : x.spot with
      | none => rfl
      | some q =>
        unfold World.cell? at h0
        split at h0
        · simp [hs] at h0
        · cases h0
    obtain ⟨b, o, s⟩ := x
    simp only at hsp
    subst hsp
    have hbd : ∀ n ∈ zs, 0 ≤ n ∧ n ≤ 255 := fun n hn => by
      have := hwz n hn
      simp [Lit.wf, IntKind.min, IntKind.max, IntKind.bits, IntKind.signed] at this
      omega
    refine .inr ⟨b, o, (zs.take len).map Int.toNat, rfl, by simp; omega, hl, by unfold maxLen at hm; omega, fun y hy => ?_, fun j v hv => ?_, ?_⟩
    · obtain ⟨n, hn, rfl⟩ := List.mem_map.1 hy
      have := hbd n (List.mem_of_mem_take hn)
      omega
    · have hj : j < len := by
        have := (List.getElem?_eq_some_iff.1 hv).1
        simp [ints] at this
        omega
      have hj' : j < zs.length := by omega
      have h1 := hcell j hj'
      rw [Addr.add_mid] at h1
      rw [h1, ← hv]
      have := hbd zs[j] (List.getElem_mem hj')
      simp [ints, hj, hj']
      omega
    · have := World.block_lt_of_cell? w _ (by rw [hx0] at h0; exact h0)
      exact this
theorem Tryd.wf_i64 {n : Int} (h : (Lit.int .i64 n).wf = true) : -9223372036854775808 ≤ n ∧ n ≤ 9223372036854775807 := by
  simp [Lit.wf, IntKind.min, IntKind.max, IntKind.bits, IntKind.signed] at h
  omega
theorem bytesAt_none (w : World) (p : Option Addr) (c : Nat) : BytesAt w (.slice p 0 c) [] := ⟨(fun _ h => by cases h), .inl ⟨p, c, rfl, rfl⟩⟩
def SrcIs (w : World) (v : Value) (l : List Nat) : Prop :=
  (v = .slice none 0 0 ∧ l = []) ∨ ∃ ad c, v = .slice (some ad) l.length c ∧ ∀ j u, (ints .u8 l)[j]? = some u → w.cell? (ad.add j) = some u
theorem SrcIs.below {w w' : World} {v : Value} {l : List Nat} (h : SrcIs w v l) (hb : Below w.heap.size w w') : SrcIs w' v l := by
  rcases h with h | ⟨ad, c, rfl, h⟩
  · exact .inl h
  · exact .inr ⟨ad, c, rfl, fun j u hu => by
      have h1 := h j u hu
      rw [← h1]
      exact hb.cell (World.block_lt_of_cell? w _ h1)⟩
theorem srcIs_of {w : World} {a : Option Addr} {len cap : Nat} (h : RowIs w a len cap) : ∃ l, l.length = len ∧ SrcIs w (.slice a len cap) l ∧ BytesAt w (.slice a len cap) l := by
  rcases h with ⟨rfl, rfl⟩ | ⟨b, o, l, rfl, rfl, hc, hm, hs, hr, hb⟩
  · refine ⟨[], rfl, ?_, bytesAt_none _ _ _⟩
    cases a with
    | none => exact .inl ⟨rfl, rfl⟩
    | some x => exact .inr ⟨x, 0, rfl, fun j u hu => by simp [ints] at hu⟩
  · exact ⟨l, rfl, .inr ⟨⟨b, o, none⟩, cap, rfl, fun j u hu => by rw [Addr.add_mid]; exact hr j u hu⟩, hs, .inr ⟨b, o, cap, rfl, hc, hr⟩⟩
theorem law_append {ops : Array Oper} {rest : List Oper} {dst : Option Tmp} {T : TypeId} {pos : String} {after : Array Edge} {a : Act} {w : World} {Q : Exit → Act → World → Prop} {st xt : Tmp}
    (base : Nat) (v : Value) (n : Nat) (xs : List Value) (sv : Value) (l : List Nat) (hs : a.eval (.tmp st) = v) (hx : a.eval (.tmp xt) = sv) (hown : w.ownsRow base 5 1 v n xs) (hsv : SrcIs w sv l)
    (hn : n + l.length ≤ 100000) (hbase : base ≤ w.heap.size)
    (h : ∀ v' w', w'.ownsRow base 5 1 v' (n + l.length) (xs ++ ints .u8 l) → w.grownBy w' v.ownBlock → wpList Tryd.prog ops Q rest (a.put dst v') w') :
    wpList Tryd.prog ops Q ({ dst := dst, op := .call { callee := .builtin .append, args := #[.tmp st, .tmp xt], argTypes := #[23, 23] }, type := T, pos := pos, after := after, guard := none } :: rest) a w := by
  obtain ⟨i, hi, hsz, hby, hz⟩ := info5e
  rcases hsv with ⟨rfl, rfl⟩ | ⟨ad, c, rfl, hc⟩
  · refine wpList_append_own_none rfl (.tmp st) (.tmp xt) 23 rfl base 5 i 1 Tryd.underlying23 hi v n xs hs hown hx (h v w ?_ (grownBy_refl _ _))
    simpa [ints] using hown
  · refine wpList_append_own _ rfl (.tmp st) (.tmp xt) 23 rfl base 5 i _ 1 1 Tryd.underlying23 hi hz hsz hby rfl (by decide) v n xs hs hown ad l.length c (ints .u8 l) hx (by rw [ints_length]; omega) hc (fun u hu => by obtain ⟨q, _, rfl⟩ := List.mem_map.1 hu; rfl) (by unfold maxLen; omega) (by omega) hbase (fun v' w' h1 h2 _ => h v' w' h1 h2)
theorem bytesAt_own {w : World} {base : Nat} {v : Value} {l : List Nat} (hs : ∀ x ∈ l, x < 256) (h : w.ownsRow base 5 1 v l.length (ints .u8 l)) : BytesAt w v l := by
  obtain ⟨_, ⟨rfl, h0⟩ | ⟨g, cap, cur, rfl, hg, hh, hn, hm, hc, ht⟩⟩ := h
  · obtain rfl := List.eq_nil_of_length_eq_zero h0
    exact bytesAt_none _ _ _
  · refine ⟨hs, .inr ⟨g, 0, cap, rfl, hn, fun j u hu => ?_⟩⟩
    rw [cell_of_row _ _ _ _ _ _ hh, Nat.zero_add]
    have hj := (List.getElem?_eq_some_iff.1 hu).1
    rw [ints_length] at hj
    rw [← ht, Nat.mul_one, List.getElem?_take_of_lt hj] at hu
    simpa using hu
end Go.Proofs.YtkiohhkmlpgdoaaDoor.S2
/- mac: a key filled up, masked; the plain mathematics of HMAC. -/
namespace Go.Proofs.YtkiohhkmlpgdoaaDoor.S2
open Go.Proofs.YtkiohhkmlpgdoaaDoor.Sp
open Go.RowKit
namespace Mk
/-- A key that is longer than a block stands for its sum. -/
def short (key : List Nat) : List Nat := if 64 < key.length then Sp.sum key else key
def fill (key : List Nat) : List Nat := short key ++ List.replicate (64 - (short key).length) 0
def mask (k : List Nat) (x : Nat) : List Nat := k.map fun y => y ^^^ x
def code (key m : List Nat) : List Nat := Sp.sum (mask (fill key) 92 ++ Sp.sum (mask (fill key) 54 ++ m))
theorem short_le (key : List Nat) : (short key).length ≤ 64 := by
  unfold short
  split
  · rw [sum_length]; decide
  · omega
theorem fill_length (key : List Nat) : (fill key).length = 64 := by
  have := short_le key
  simp [fill]
  omega
theorem sum_small (m : List Nat) : ∀ x ∈ Sp.sum m, x < 256 := fun x hx => by
  unfold Sp.sum Sp.bytesTo at hx
  obtain ⟨y, _, hy⟩ := List.mem_flatMap.1 hx
  simp [Sp.bytes4] at hy
  omega
theorem short_small {key : List Nat} (h : ∀ x ∈ key, x < 256) : ∀ x ∈ short key, x < 256 := by
  unfold short
  split
  · exact sum_small key
  · exact h
theorem fill_small {key : List Nat} (h : ∀ x ∈ key, x < 256) : ∀ x ∈ fill key, x < 256 := fun x hx => by
  rcases List.mem_append.1 hx with h1 | h1
  · exact short_small h x h1
  · have := (List.mem_replicate.1 h1).2
    omega
theorem mask_length (k : List Nat) (x : Nat) : (mask k x).length = k.length := by simp [mask]
theorem mask_small {k : List Nat} (h : ∀ x ∈ k, x < 256) {x : Nat} (hx : x < 256) : ∀ y ∈ mask k x, y < 256 := fun y hy => by
  obtain ⟨z, hz, rfl⟩ := List.mem_map.1 hy
  exact Nat.xor_lt_two_pow (n := 8) (h z hz) hx
theorem mask_set (k : List Nat) (x j : Nat) (h : j < k.length) : (mask (k.take j) x ++ k.drop j).set j (Sp.nth k j ^^^ x) = mask (k.take (j + 1)) x ++ k.drop (j + 1) := by
  have e : k.drop j = Sp.nth k j :: k.drop (j + 1) := by
    rw [List.drop_eq_getElem_cons h]
    simp [Sp.nth, h]
  have e2 : k.take (j + 1) = k.take j ++ [Sp.nth k j] := by rw [List.take_add_one, Sp.nth_of h]; rfl
  rw [e, e2, List.set_append_right _ _ (by simp [mask]; omega)]
  simp [mask, Nat.min_eq_left (Nat.le_of_lt h)]
theorem code_small (key m : List Nat) : ∀ x ∈ code key m, x < 256 := sum_small _
theorem code_length (key m : List Nat) : (code key m).length = 32 := sum_length _
end Mk
def zeroK : Array Value := arr .u8 (List.replicate 64 0)
theorem zeroK_eq : #[Value.int IntKind.u8 0, Value.int IntKind.u8 0, Value.int IntKind.u8 0, Value.int IntKind.u8 0, Value.int IntKind.u8 0, Value.int IntKind.u8 0, Value.int IntKind.u8 0, Value.int IntKind.u8 0, Value.int IntKind.u8 0, Value.int IntKind.u8 0, Value.int IntKind.u8 0, Value.int IntKind.u8 0, Value.int IntKind.u8 0, Value.int IntKind.u8 0, Value.int IntKind.u8 0, Value.int IntKind.u8 0, Value.int IntKind.u8 0, Value.int IntKind.u8 0, Value.int IntKind.u8 0, Value.int IntKind.u8 0, Value.int IntKind.u8 0, Value.int IntKind.u8 0, Value.int IntKind.u8 0, Value.int IntKind.u8 0, Value.int IntKind.u8 0, Value.int IntKind.u8 0, Value.int IntKind.u8 0, Value.int IntKind.u8 0, Value.int IntKind.u8 0, Value.int IntKind.u8 0, Value.int IntKind.u8 0, Value.int IntKind.u8 0, Value.int IntKind.u8 0, Value.int IntKind.u8 0, Value.int IntKind.u8 0, Value.int IntKind.u8 0, Value.int IntKind.u8 0, Value.int IntKind.u8 0, Value.int IntKind.u8 0, Value.int IntKind.u8 0, Value.int IntKind.u8 0, Value.int IntKind.u8 0, Value.int IntKind.u8 0, Value.int IntKind.u8 0, Value.int IntKind.u8 0, Value.int IntKind.u8 0, Value.int IntKind.u8 0, Value.int IntKind.u8 0, Value.int IntKind.u8 0, Value.int IntKind.u8 0, Value.int IntKind.u8 0, Value.int IntKind.u8 0, Value.int IntKind.u8 0, Value.int IntKind.u8 0, Value.int IntKind.u8 0, Value.int IntKind.u8 0, Value.int IntKind.u8 0, Value.int IntKind.u8 0, Value.int IntKind.u8 0, Value.int IntKind.u8 0, Value.int IntKind.u8 0, Value.int IntKind.u8 0, Value.int IntKind.u8 0, Value.int IntKind.u8 0] = zeroK := rfl
section
variable {w : World} {g : Nat} {l : List Nat}
end
end Go.Proofs.YtkiohhkmlpgdoaaDoor.S2
/- mac: fillUp. -/
namespace Go.Proofs.YtkiohhkmlpgdoaaDoor.S2
open Go.Proofs.YtkiohhkmlpgdoaaDoor.Sp
open Go.RowKit
theorem bytesAt_src {w : World} {p : Option Addr} {n c : Nat} {l : List Nat} (h : BytesAt w (.slice p n c) l) : l.length = n ∧ (l ≠ [] → ∃ b o, p = some ⟨b, o, none⟩ ∧ w.rangeAt b o (ints .u8 l)) := by
  rcases h.2 with ⟨p', c', he, rfl⟩ | ⟨b, o, c', he, hc, hr⟩
  · cases he
    exact ⟨rfl, fun h => absurd rfl h⟩
  · cases he
    exact ⟨rfl, fun _ => ⟨b, o, rfl, hr⟩⟩
theorem fill_spliceN (N : Nat) (s : List Nat) : splice (ints .u8 (List.replicate N 0)) 0 (ints .u8 s) = ints .u8 (s ++ List.replicate (N - s.length) 0) := by
  simp [splice, ints]
theorem fill_splice (s : List Nat) : splice (ints .u8 (List.replicate 64 0)) 0 (ints .u8 s) = ints .u8 (s ++ List.replicate (64 - s.length) 0) := fill_spliceN 64 s
end Go.Proofs.YtkiohhkmlpgdoaaDoor.S2
/- mac: Code. -/
namespace Go.Proofs.YtkiohhkmlpgdoaaDoor.S2
open Go.Proofs.YtkiohhkmlpgdoaaDoor.Sp
open Go.RowKit
theorem hashAt_lt {w : World} {g : Nat} {m : List Nat} (h : HashAt w g m) : g < w.heap.size := by
  obtain ⟨st, blk, _, h2⟩ := h
  exact (Array.getElem?_eq_some_iff.1 h2).1
end Go.Proofs.YtkiohhkmlpgdoaaDoor.S2
