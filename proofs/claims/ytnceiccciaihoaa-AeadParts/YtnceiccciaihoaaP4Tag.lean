/- The contract of Tag. -/
import Derived.Test.YtnceiccciaihoaaP4Closed
import Derived.Test.YtnceiccciaihoaaLast
namespace Go.Proofs.Ytnceiccciaihoaa.P4
open Go.RowKit
/-- Bytes that a slice's pointer leads to. -/
def TextIs (w : World) (p : Option Addr) (l : List Nat) : Prop := (∀ x ∈ l, x < 256) ∧ (l ≠ [] → ∃ b o, p = some ⟨b, o, none⟩ ∧ w.rangeAt b o (ints .u8 l))
theorem TextIs.below {w w' : World} {p : Option Addr} {l : List Nat} (h : TextIs w p l) (hb : Below w.heap.size w w') : TextIs w' p l :=
  ⟨h.1, fun hne => by obtain ⟨b, o, e, hr⟩ := h.2 hne; exact ⟨b, o, e, rangeAt_below hb hr⟩⟩
theorem range_take {w : World} {b o : Nat} {l : List Nat} (h : w.rangeAt b o (ints .u8 l)) (n : Nat) : w.rangeAt b o (ints .u8 (l.take n)) := fun j v hv => by
  apply h j v
  have hj := (List.getElem?_eq_some_iff.1 hv).1
  simp only [ints, List.length_map, List.length_take] at hj
  simp only [ints, List.map_take] at hv ⊢
  rw [List.getElem?_take_of_lt (by omega)] at hv
  exact hv
theorem range_drop {w : World} {b o : Nat} {l : List Nat} (h : w.rangeAt b o (ints .u8 l)) (n : Nat) : w.rangeAt b (o + n) (ints .u8 (l.drop n)) := fun j v hv => by
  have := h (n + j) v
  rw [← Nat.add_assoc] at this
  apply this
  simp only [ints, List.map_drop, List.getElem?_drop] at hv ⊢
  exact hv
theorem lt_take {l : List Nat} (h : ∀ x ∈ l, x < 256) (n : Nat) : ∀ x ∈ l.take n, x < 256 := fun x hx => h x (List.mem_of_mem_take hx)
theorem lt_drop {l : List Nat} (h : ∀ x ∈ l, x < 256) (n : Nat) : ∀ x ∈ l.drop n, x < 256 := fun x hx => h x (List.mem_of_mem_drop hx)
theorem law_store38 {ops : Array Oper} {rest : List Oper} {dst : Option Tmp} {T : TypeId} {pos : String} {after : Array Edge} {a : Act} {w : World} {Q : Exit → Act → World → Prop} {xt yt : Tmp} (d : List Nat) (hd : d.length = 5)
    (hx : a.eval (.tmp xt) = .pointer (some ⟨w.heap.size, 0, none⟩)) (hy : a.eval (.tmp yt) = .agg (arr .u64 d))
    (h : ∀ w', WAt w' w.heap.size d → Below w.heap.size w w' → w'.heap.size = w.heap.size + 1 → wpList Try.prog ops Q rest (a.put dst undef) w') :
    wpList Try.prog ops Q ({ dst := dst, op := .store 51 (.tmp xt) (.tmp yt), type := T, pos := pos, after := after, guard := none } :: rest) a (w.alloc (Obj.cells zeros5 51)) := by
  obtain ⟨h1, h2, h3⟩ := new38 w d hd
  refine law_store w.heap.size 0 (arr .u64 d) hx hy ?_ ?_ (ints_one _ _) (h _ h1 h2 h3)
  · rw [arr_size, hd]; exact there38 w
  · rw [arr_size, hd]; exact info38
theorem frame46 {A F : Array Value} (hs : A.size = 46) (h : ∀ t, ¬ (32 ≤ t ∧ t ≤ 36) → A.getD t undef = F.getD t undef) : A = #[F.getD 0 undef, F.getD 1 undef, F.getD 2 undef, F.getD 3 undef, F.getD 4 undef, F.getD 5 undef, F.getD 6 undef, F.getD 7 undef, F.getD 8 undef, F.getD 9 undef, F.getD 10 undef, F.getD 11 undef, F.getD 12 undef, F.getD 13 undef, F.getD 14 undef, F.getD 15 undef, F.getD 16 undef, F.getD 17 undef, F.getD 18 undef, F.getD 19 undef, F.getD 20 undef, F.getD 21 undef, F.getD 22 undef, F.getD 23 undef, F.getD 24 undef, F.getD 25 undef, F.getD 26 undef, F.getD 27 undef, F.getD 28 undef, F.getD 29 undef, F.getD 30 undef, F.getD 31 undef, A.getD 32 undef, A.getD 33 undef, A.getD 34 undef, A.getD 35 undef, A.getD 36 undef, F.getD 37 undef, F.getD 38 undef, F.getD 39 undef, F.getD 40 undef, F.getD 41 undef, F.getD 42 undef, F.getD 43 undef, F.getD 44 undef, F.getD 45 undef] := by
  rw [← h 0 (by decide), ← h 1 (by decide), ← h 2 (by decide), ← h 3 (by decide), ← h 4 (by decide), ← h 5 (by decide), ← h 6 (by decide), ← h 7 (by decide), ← h 8 (by decide), ← h 9 (by decide), ← h 10 (by decide), ← h 11 (by decide), ← h 12 (by decide), ← h 13 (by decide), ← h 14 (by decide), ← h 15 (by decide), ← h 16 (by decide), ← h 17 (by decide), ← h 18 (by decide), ← h 19 (by decide), ← h 20 (by decide), ← h 21 (by decide), ← h 22 (by decide), ← h 23 (by decide), ← h 24 (by decide), ← h 25 (by decide), ← h 26 (by decide), ← h 27 (by decide), ← h 28 (by decide), ← h 29 (by decide), ← h 30 (by decide), ← h 31 (by decide), ← h 37 (by decide), ← h 38 (by decide), ← h 39 (by decide), ← h 40 (by decide), ← h 41 (by decide), ← h 42 (by decide), ← h 43 (by decide), ← h 44 (by decide), ← h 45 (by decide)]
  refine Array.ext (by simp [hs]) (fun i h1 h2 => ?_)
  have e : A[i] = A.getD i undef := by simp [h1]
  rw [e]
  rw [hs] at h1
  clear e h hs
  match i, h1 with
  | 0, _ => rfl
  | 1, _ => rfl
  | 2, _ => rfl
  | 3, _ => rfl
  | 4, _ => rfl
  | 5, _ => rfl
  | 6, _ => rfl
  | 7, _ => rfl
  | 8, _ => rfl
  | 9, _ => rfl
  | 10, _ => rfl
  | 11, _ => rfl
  | 12, _ => rfl
  | 13, _ => rfl
  | 14, _ => rfl
  | 15, _ => rfl
  | 16, _ => rfl
  | 17, _ => rfl
  | 18, _ => rfl
  | 19, _ => rfl
  | 20, _ => rfl
  | 21, _ => rfl
  | 22, _ => rfl
  | 23, _ => rfl
  | 24, _ => rfl
  | 25, _ => rfl
  | 26, _ => rfl
  | 27, _ => rfl
  | 28, _ => rfl
  | 29, _ => rfl
  | 30, _ => rfl
  | 31, _ => rfl
  | 32, _ => rfl
  | 33, _ => rfl
  | 34, _ => rfl
  | 35, _ => rfl
  | 36, _ => rfl
  | 37, _ => rfl
  | 38, _ => rfl
  | 39, _ => rfl
  | 40, _ => rfl
  | 41, _ => rfl
  | 42, _ => rfl
  | 43, _ => rfl
  | 44, _ => rfl
  | 45, _ => rfl
  | i + 46, h => omega
theorem dst_within {ops : Array Oper} {lo up : Nat} (h : (ops.toList.all fun o => match o.dst with | some d => decide (lo ≤ d) && decide (up ≥ d) | none => true) = true) (t : Nat) (ht : ¬ (lo ≤ t ∧ t ≤ up)) (i : Nat) : (ops[i]?).bind (·.dst) ≠ some t := fun e => by
  obtain ⟨o, ho, hd⟩ := Option.bind_eq_some_iff.1 e
  have h1 := List.all_eq_true.1 h o (by obtain ⟨hi, rfl⟩ := Array.getElem?_eq_some_iff.1 ho; simp)
  simp only [hd, Bool.and_eq_true, decide_eq_true_eq] at h1
  omega
theorem clamp_take (key : List Nat) : Po.clamp (key.take 16) = Po.clamp key := by
  unfold Po.clamp
  apply List.map_congr_left
  intro i hi
  rw [Sp.nth_take (List.mem_range.1 hi)]
/-- A product modulo P, of numbers that are known modulo P. -/
theorem step_mod {a b r A : Nat} (h : a % Po.P = A) : ((a + b) * r) % Po.P = ((A + b) * r) % Po.P := by
  subst h
  rw [Nat.mul_mod, Nat.add_mod, Nat.mul_mod ((a % Po.P) + b), Nat.add_mod (a % Po.P) b, Nat.mod_mod]
def accV (a blk r : List Nat) : Nat → Value → World → Prop
  | 0 => IsV (.agg (arr .u64 a))
  | 1 => IsV (.agg (arr .u64 blk))
  | 2 => IsV (.agg (arr .u64 (sumTo a blk 5)))
  | 3 => IsV (.agg (arr .u64 r))
  | 4 => fun v _ => ∃ d, v = .agg (arr .u64 d) ∧ Wide d ∧ Po.pos Po.B d % Po.P = ((Po.pos Po.B a + Po.pos Po.B blk) * Po.pos Po.B r) % Po.P
  | _ => fun _ _ => True
theorem accV_kept (a blk r : List Nat) : ∀ i v w w', accV a blk r i v w → Below w.heap.size w w' → accV a blk r i v w'
  | 0, _, _, _, h, _ => h
  | 1, _, _, _, h, _ => h
  | 2, _, _, _, h, _ => h
  | 3, _, _, _, h, _ => h
  | 4, _, _, _, h, _ => h
  | _ + 5, _, _, _, _, _ => trivial
theorem st_load38 {ops : Array Oper} {Q : Exit → Act → World → Prop} {V : Nat → Value → World → Prop} {i : Nat} {o : Oper} {a' : Act} {w' : World} (t : Tmp) (g : Nat) (l : List Nat) (hl : l.length = 5) (hi : ops[i]? = some o) (hg : o.guard = none)
    (ho : o.op = .load 51 (.tmp t)) (hx : a'.tmps.getD t undef = .pointer (some ⟨g, 0, none⟩)) (h : WAt w' g l) (hv : V i (.agg (arr .u64 l)) w') : wpOp Try.prog ops Q i (fun a'' w2 => Below w'.heap.size w' w2 ∧ ∃ v, a'' = a'.put o.dst v ∧ V i v w2) a' w' :=
  wpOp_load 51 (.tmp t) g 0 (ints .u64 l) _ hi (wanted_none hg) ho hx (rangeAt_of_row h) under38 rfl (by rw [ints_length, hl]; exact info38) ⟨Below.refl _ _, _, rfl, hv⟩
theorem frame46b {A F : Array Value} (hs : A.size = 46) (h : ∀ t, ¬ (t = 10 ∨ 37 ≤ t ∧ t ≤ 42) → A.getD t undef = F.getD t undef) : A = #[F.getD 0 undef, F.getD 1 undef, F.getD 2 undef, F.getD 3 undef, F.getD 4 undef, F.getD 5 undef, F.getD 6 undef, F.getD 7 undef, F.getD 8 undef, F.getD 9 undef, A.getD 10 undef, F.getD 11 undef, F.getD 12 undef, F.getD 13 undef, F.getD 14 undef, F.getD 15 undef, F.getD 16 undef, F.getD 17 undef, F.getD 18 undef, F.getD 19 undef, F.getD 20 undef, F.getD 21 undef, F.getD 22 undef, F.getD 23 undef, F.getD 24 undef, F.getD 25 undef, F.getD 26 undef, F.getD 27 undef, F.getD 28 undef, F.getD 29 undef, F.getD 30 undef, F.getD 31 undef, F.getD 32 undef, F.getD 33 undef, F.getD 34 undef, F.getD 35 undef, F.getD 36 undef, A.getD 37 undef, A.getD 38 undef, A.getD 39 undef, A.getD 40 undef, A.getD 41 undef, A.getD 42 undef, F.getD 43 undef, F.getD 44 undef, F.getD 45 undef] := by
  rw [← h 0 (by decide), ← h 1 (by decide), ← h 2 (by decide), ← h 3 (by decide), ← h 4 (by decide), ← h 5 (by decide), ← h 6 (by decide), ← h 7 (by decide), ← h 8 (by decide), ← h 9 (by decide), ← h 11 (by decide), ← h 12 (by decide), ← h 13 (by decide), ← h 14 (by decide), ← h 15 (by decide), ← h 16 (by decide), ← h 17 (by decide), ← h 18 (by decide), ← h 19 (by decide), ← h 20 (by decide), ← h 21 (by decide), ← h 22 (by decide), ← h 23 (by decide), ← h 24 (by decide), ← h 25 (by decide), ← h 26 (by decide), ← h 27 (by decide), ← h 28 (by decide), ← h 29 (by decide), ← h 30 (by decide), ← h 31 (by decide), ← h 32 (by decide), ← h 33 (by decide), ← h 34 (by decide), ← h 35 (by decide), ← h 36 (by decide), ← h 43 (by decide), ← h 44 (by decide), ← h 45 (by decide)]
  refine Array.ext (by simp [hs]) (fun i h1 h2 => ?_)
  have e : A[i] = A.getD i undef := by simp [h1]
  rw [e]
  rw [hs] at h1
  clear e h hs
  match i, h1 with
  | 0, _ => rfl
  | 1, _ => rfl
  | 2, _ => rfl
  | 3, _ => rfl
  | 4, _ => rfl
  | 5, _ => rfl
  | 6, _ => rfl
  | 7, _ => rfl
  | 8, _ => rfl
  | 9, _ => rfl
  | 10, _ => rfl
  | 11, _ => rfl
  | 12, _ => rfl
  | 13, _ => rfl
  | 14, _ => rfl
  | 15, _ => rfl
  | 16, _ => rfl
  | 17, _ => rfl
  | 18, _ => rfl
  | 19, _ => rfl
  | 20, _ => rfl
  | 21, _ => rfl
  | 22, _ => rfl
  | 23, _ => rfl
  | 24, _ => rfl
  | 25, _ => rfl
  | 26, _ => rfl
  | 27, _ => rfl
  | 28, _ => rfl
  | 29, _ => rfl
  | 30, _ => rfl
  | 31, _ => rfl
  | 32, _ => rfl
  | 33, _ => rfl
  | 34, _ => rfl
  | 35, _ => rfl
  | 36, _ => rfl
  | 37, _ => rfl
  | 38, _ => rfl
  | 39, _ => rfl
  | 40, _ => rfl
  | 41, _ => rfl
  | 42, _ => rfl
  | 43, _ => rfl
  | 44, _ => rfl
  | 45, _ => rfl
  | i + 46, h => omega
theorem dst_within2 {ops : Array Oper} {x lo up : Nat} (h : (ops.toList.all fun o => match o.dst with | some d => decide (x = d) || (decide (lo ≤ d) && decide (up ≥ d)) | none => true) = true) (t : Nat) (ht : ¬ (t = x ∨ lo ≤ t ∧ t ≤ up)) (i : Nat) : (ops[i]?).bind (·.dst) ≠ some t := fun e => by
  obtain ⟨o, ho, hd⟩ := Option.bind_eq_some_iff.1 e
  have h1 := List.all_eq_true.1 h o (by obtain ⟨hi, rfl⟩ := Array.getElem?_eq_some_iff.1 ho; simp)
  simp only [hd, Bool.or_eq_true, Bool.and_eq_true, decide_eq_true_eq] at h1
  omega
theorem elem22 : Try.prog.elem 22 = 5 := by kernel_rfl
theorem slice16_run {o : Oper} {a' : Act} {w' : World} {b of c : Nat} (t : Tmp) (ho : o.op = .slice 22 (.tmp t) (some (.const (.int .i64 16))) none none) (h0 : a'.tmps.getD t undef = .slice (some ⟨b, of, none⟩) 32 c) (hc : 32 ≤ c) :
    (execOp a'.eval o).run Try.prog w' = .ok (.value (.slice (some ⟨b, of + 16, none⟩) 16 (c - 16))) w' := by
  have e0 : a'.eval (.tmp t) = .slice (some ⟨b, of, none⟩) 32 c := h0
  have e1 : a'.eval (.const (.int .i64 16)) = .int .i64 16 := rfl
  obtain ⟨i, hi, hsz, _, _⟩ := info5e
  have hne : c ≠ 16 := by omega
  have hrun := run_slice_l (P := Try.prog) w' 22 (some ⟨b, of, none⟩) 32 c Try.underlying22 .i64 16 (by omega) (by omega)
  rw [elem22] at hrun
  unfold execOp
  simp only [ho]
  generalize a'.eval = r at *
  simp [e0, e1, run_sliceAt_slice (P := Try.prog) (h := Try.underlying22), hrun, sizeOf, typeInfo, hi, hsz, sliced, hne, Addr.add_lit]
def sumV (a : List Nat) (k0 k1 : Value) (S base : Nat) : Nat → Value → World → Prop
  | 0 => IsV (.agg (arr .u64 a))
  | 1 => fun v _ => ∃ d, v = .agg (arr .u64 d) ∧ Wide d ∧ Po.pos Po.B d = Po.pos Po.B a % Po.P
  | 2 => IsV k0
  | 3 => IsV k1
  | 4 => fun v _ => ∃ d, v = .agg (arr .u64 d) ∧ Wide d ∧ Po.pos Po.B d = S
  | 5 => fun v _ => ∃ d, v = .agg (arr .u64 d) ∧ d.length = 5 ∧ (∀ x ∈ d, x < 134217728) ∧ Po.pos Po.B d = Po.pos Po.B a % Po.P + S
  | 6 => fun v w => ∃ g, v = .pointer (some ⟨g, 0, none⟩) ∧ base ≤ g ∧ WAt w g (List.replicate 5 0)
  | _ => fun _ _ => True
theorem sumV_kept (a : List Nat) (k0 k1 : Value) (S base : Nat) : ∀ i v w w', sumV a k0 k1 S base i v w → Below w.heap.size w w' → sumV a k0 k1 S base i v w'
  | 0, _, _, _, h, _ => h
  | 1, _, _, _, h, _ => h
  | 2, _, _, _, h, _ => h
  | 3, _, _, _, h, _ => h
  | 4, _, _, _, h, _ => h
  | 5, _, _, _, h, _ => h
  | 6, _, _, _, ⟨g, h1, h3, h2⟩, hb => ⟨g, h1, h3, h2.below hb h2.lt⟩
  | _ + 7, _, _, _, _, _ => trivial
theorem own_base {w : World} {base base' e size : Nat} {v : Value} {n : Nat} {xs : List Value} (h : w.ownsRow base e size v n xs) (hb : base' ≤ base) : w.ownsRow base' e size v n xs := by
  obtain ⟨h1, h2 | ⟨g, cap, cur, hv, hg, hr⟩⟩ := h
  · exact ⟨h1, .inl h2⟩
  · exact ⟨h1, .inr ⟨g, cap, cur, hv, Nat.le_trans hb hg, hr⟩⟩
set_option maxHeartbeats 1000000 in
theorem tag_ok (key text : List Nat) (bk ok ck n ct : Nat) (pt : Option Addr) (w : World) (hk : key.length = 32) (hkb : ∀ x ∈ key, x < 256) (hkr : w.rangeAt bk ok (ints .u8 key)) (hck : 32 ≤ ck)
    (hT : TextIs w pt text) (htl : text.length = n) (hnl : n < 4611686018427387904) (hct : n ≤ ct) :
    Calls Try.prog 16 #[.slice (some ⟨bk, ok, none⟩) 32 ck, .slice pt n ct] w fun e w' => ∃ v, e = .returned (.tuple #[v, .int .i64 0]) ∧ w'.ownsRow w.heap.size 5 1 v 16 (ints .u8 (Po.tag key text)) ∧ Below w.heap.size w w' := by
  have HKL : Hid (key.length = 32) := hk
  have HKB : Hid (∀ x ∈ key, x < 256) := hkb
  have HKR : Hid (w.rangeAt bk ok (ints .u8 key)) := hkr
  have HT : Hid (TextIs w pt text) := hT
  have HTL : Hid (text.length = n) := htl
  clear hk hkb hkr hT htl
  have hck1 : (16 : Int) ≤ (ck : Int) := by omega
  have hck2 : ¬ ck = 16 := by omega
  go_enter Try.func16, Try.ntmps16
  go_wp2_with fail
  refine (multiplier_any (key.take 16) bk ok ck w (by rw [List.length_take, HKL.out]; rfl) (lt_take HKB.out 16) (range_take HKR.out 16)).mono ?_
  rintro e w1 ⟨r, rfl, hwr, hpr, hb1⟩
  have HRW : Hid (Wide r) := hwr
  have HRL : Hid (r.length = 5) := hwr.1
  have HPR : Hid (Po.pos Po.B r = Po.pos 256 (Po.clamp (key.take 16))) := hpr
  have HB1 : Hid (Below w.heap.size w w1) := hb1
  clear hwr hpr hb1
  go_wp2_with (first | with_reducible (refine stop_store 51 ?_))
  rw [zeros5_eq]
  refine Stop.go ?_
  with_reducible refine law_store38 r HRL.out ?sx ?sy ?sk
  case sx => exact rfl
  case sy => exact rfl
  intro w2 h2 hb2 hs2
  have HR2 : Hid (WAt w2 w1.heap.size r) := h2
  have HB2 : Hid (Below w.heap.size w w2) := HB1.out.trans (hb2.mono HB1.out.size)
  have HS2 : Hid (w2.heap.size = w1.heap.size + 1) := hs2
  have hle := HB1.out.size
  clear h2 hb2 hs2 HB1
  go_wp2_with fail
  rw [zeros5_eq]
  have HZ : Hid (WAt (w2.alloc (Obj.cells zeros5 51)) w2.heap.size (List.replicate 5 0)) := heap_alloc_new w2 _
  have hbz : Below w2.heap.size w2 (w2.alloc (Obj.cells zeros5 51)) := (Below.refl _ _).alloc (Nat.le_refl _) _
  have HR3 : Hid (WAt (w2.alloc (Obj.cells zeros5 51)) w1.heap.size r) := HR2.out.below hbz HR2.out.lt
  have HB3 : Hid (Below w.heap.size w (w2.alloc (Obj.cells zeros5 51))) := HB2.out.trans (hbz.mono HB2.out.size)
  have hs2 := HS2.out
  clear hbz HR2 HB2 HS2
  generalize w2.alloc (Obj.cells zeros5 51) = W3 at *
  generalize w2.heap.size = ga at *
  subst hs2
  generalize w1.heap.size = gr at *
  obtain ⟨R, hR⟩ : ∃ R, Po.pos Po.B r = R := ⟨_, rfl⟩
  have HRR : Hid (R = Po.rOf key) := by
    show _ = _
    rw [← hR, HPR.out, clamp_take]
    rfl
  have HRP : Hid (Po.pos Po.B r = R) := hR
  clear hR HPR
  go_loopw [8] (fun i wr => ∃ (k : Nat) (a : List Nat), 16 * k < n + 16 ∧ i = .int .i64 ((16 * k : Nat) : Int) ∧ Hid (WAt wr (gr + 1) a) ∧ Hid (WAt wr gr r) ∧ Hid (Wide a) ∧ Hid (Po.pos Po.B a % Po.P = Po.acc R text k) ∧ Hid (Below w.heap.size w wr)) (fun i _ => n + 16 - (intOf i).toNat)
  case atStart => exact ⟨0, _, by omega, rfl, HZ.out, HR3.out, ⟨by simp, fun x hx => by simp at hx; rw [hx]; decide⟩, by show _ = _; simp [Po.pos, List.replicate, Po.acc], HB3.out⟩
  case round =>
    clear HZ HR3 HB3
    obtain ⟨k, a, hk, rfl, HA, HR, HAW, HP, HB⟩ := hrel
    by_cases hlt : 16 * k < n
    · obtain ⟨A, hA⟩ : ∃ A, 16 * k = A := ⟨_, rfl⟩
      rw [hA] at hlt hk ⊢
      obtain ⟨bt, ot, rfl, hrt⟩ := HT.out.2 (by intro e; have := HTL.out; rw [e] at this; simp at this; omega)
      have hrt2 : wr.rangeAt bt (ot + A) (ints .u8 ((text.drop A).take 16)) := range_take (range_drop (rangeAt_below HB.out hrt) A) 16
      have HRT : Hid (wr.rangeAt bt (ot + A) (ints .u8 ((text.drop A).take 16))) := hrt2
      obtain ⟨m, hm⟩ : ∃ m, min (A + 16) n - A = m := ⟨_, rfl⟩
      obtain ⟨E, hE⟩ : ∃ E, min (A + 16) n = E := ⟨_, rfl⟩
      have hEA : E - A = m := by omega
      have HML : Hid (((text.drop A).take 16).length = m) := by
        show _ = _
        rw [List.length_take, List.length_drop, HTL.out]; omega
      have HMB : Hid (∀ x ∈ (text.drop A).take 16, x < 256) := lt_take (lt_drop HT.out.1 A) 16
      have HPT : Hid (Po.pos 256 ((text.drop A).take 16 ++ [1]) = Po.part text k) := by
        show _ = _
        rw [← hA]; rfl
      have hE' : min ((A : Int) + 16) (n : Int) = (E : Int) := by omega
      have v1 : IntKind.i64.wrap ((A : Int) + 16) = (A : Int) + 16 := i64_id _ (by omega)
      have a0 : (A : Int) < (n : Int) := by omega
      have a1 : (A : Int) ≤ (E : Int) := by omega
      have a2 : (E : Int) ≤ (ct : Int) := by omega
      have a3 : ¬ ct = A := by omega
      have hm16 : m ≤ 16 := by omega
      have HAK : Hid (16 * k = A) := hA
      have HEE : Hid (min (A + 16) n = E) := hE
      have HLT : Hid (A < n) := hlt
      clear hrt hrt2 hm hE hA HT
      generalize (text.drop A).take 16 = blkt at *
      go_wp2_with fail
      all_goals
        (first | rw [show ((A : Int) + 16).toNat - A = m from by omega] | rw [show n - A = m from by omega]
         refine (closed_any blkt m bt (ot + A) (ct - A) wr HML.out hm16 HMB.out HRT.out).mono ?_
         rintro e w4 ⟨blk, rfl, hwb, hpb, hb4⟩
         have HBW : Hid (Wide blk) := hwb
         have HBL : Hid (blk.length = 5) := hwb.1
         have HPB : Hid (Po.pos Po.B blk = Po.part text k) := hpb.trans HPT.out
         have HA4 : Hid (WAt w4 (gr + 1) a) := HA.out.below hb4 HA.out.lt
         have HR4 : Hid (WAt w4 gr r) := HR.out.below hb4 HR.out.lt
         have hsb := HB.out.size
         have HB4 : Hid (Below w.heap.size w w4) := HB.out.trans (hb4.mono hsb)
         clear hwb hpb hb4 HA HR HB HML HMB HRT HPT hE' v1
         go_wp2_with (first | with_reducible (refine stop_store 51 ?_))
         rw [zeros5_eq]
         refine Stop.go ?_
         with_reducible refine law_store38 blk HBL.out rfl rfl ?_
         intro w5 h5 hb5 hs5
         have HK5 : Hid (WAt w5 w4.heap.size blk) := h5
         have HA5 : Hid (WAt w5 (gr + 1) a) := HA4.out.below hb5 HA4.out.lt
         have HR5 : Hid (WAt w5 gr r) := HR4.out.below hb5 HR4.out.lt
         have HB5 : Hid (Below w.heap.size w w5) := HB4.out.trans (hb5.mono HB4.out.size)
         have HGL : Hid (gr + 1 < w4.heap.size) := HA4.out.lt
         clear h5 hb5 hs5 HA4 HR4 HB4
         generalize w4.heap.size = gk at *
         go_wp2_with fail
         refine wp_region_last 5 (accV a blk r) (fun u u' => Below u.heap.size u u') (by kernel_rfl) ((Below.refl _ _).drew) below_trans' (accV_kept a blk r) (by kernel_rfl) (by kernel_rfl) ?_ ?_
         · intro i o a' w' hi5 hi inv hpre
           have hb : Below w5.heap.size w5 w' := inv.grow
           obtain rfl|rfl|rfl|rfl|rfl : i = 0 ∨ i = 1 ∨ i = 2 ∨ i = 3 ∨ i = 4 := by omega
           · obtain rfl := Option.some.inj hi
             exact st_load38 7 (gr + 1) a HAW.out.1 rfl rfl rfl (by rw [inv.old 7 (notDst_spec (by kernel_rfl))]; rfl) (HA5.out.below hb HA5.out.lt) rfl
           · obtain rfl := Option.some.inj hi
             exact st_load38 9 gk blk HBL.out rfl rfl rfl (by rw [inv.old 9 (notDst_spec (by kernel_rfl))]; rfl) (HK5.out.below hb HK5.out.lt) rfl
           · obtain rfl := Option.some.inj hi
             have h0 : a'.tmps.getD 32 undef = _ := pre_of hpre 0 32 (by kernel_rfl) (by kernel_rfl)
             have h1 : a'.tmps.getD 33 undef = _ := pre_of hpre 1 33 (by kernel_rfl) (by kernel_rfl)
             refine st_call 27 #[a'.tmps.getD 32 undef, a'.tmps.getD 33 undef] rfl rfl (by kernel_rfl) ?_
             rw [h0, h1]
             refine (plus_any a blk w' HAW.out.1 HBL.out (fun x hx => Nat.lt_trans (HAW.out.2 x hx) (by decide)) (fun x hx => Nat.lt_trans (HBW.out.2 x hx) (by decide))).mono ?_
             rintro e w6 ⟨rfl, hb6⟩
             exact ⟨_, rfl, hb6, rfl⟩
           · obtain rfl := Option.some.inj hi
             exact st_load38 6 gr r HRL.out rfl rfl rfl (by rw [inv.old 6 (notDst_spec (by kernel_rfl))]; rfl) (HR5.out.below hb HR5.out.lt) rfl
           · obtain rfl := Option.some.inj hi
             have h0 : a'.tmps.getD 34 undef = _ := pre_of hpre 2 34 (by kernel_rfl) (by kernel_rfl)
             have h1 : a'.tmps.getD 35 undef = _ := pre_of hpre 3 35 (by kernel_rfl) (by kernel_rfl)
             refine st_call 28 #[a'.tmps.getD 34 undef, a'.tmps.getD 35 undef] rfl rfl (by kernel_rfl) ?_
             rw [h0, h1]
             refine (times_any (sumTo a blk 5) r w' (sumTo_length _ _ _) HRL.out (sum_lt (by decide) (by decide) HAW.out.2 HBW.out.2) HRW.out.2).mono ?_
             rintro e w6 ⟨d, rfl, hd1, hd2, hb6⟩
             refine ⟨_, rfl, hb6, d, rfl, hd1, ?_⟩
             rw [hd2, sum_pos _ _ HAW.out.1 HBL.out]
         · intro a' w' inv hd
           obtain ⟨d, h36, hdw, hdp⟩ := hd 4 36 (by decide) (by kernel_rfl)
           have hb : Below w5.heap.size w5 w' := inv.grow
           have hA6 : WAt w' (gr + 1) a := HA5.out.below hb HA5.out.lt
           have hR6 : WAt w' gr r := HR5.out.below hb HR5.out.lt
           have hB6 : Below w.heap.size w w' := HB5.out.trans (hb.mono HB5.out.size)
           have hdf : a'.defers = [] := inv.defers
           have hsz : a'.tmps.size = 46 := inv.size
           have h7 : a'.tmps.getD 7 undef = .pointer (some ⟨gr + 1, 0, none⟩) := by rw [inv.old 7 (notDst_spec (by kernel_rfl))]; rfl
           have e := frame46 hsz (fun t ht => inv.old t (dst_within (lo := 32) (up := 36) (by kernel_rfl) t ht))
           refine wpOp_store 51 (.tmp 7) (.tmp 36) (gr + 1) 0 (arr .u64 d) rfl rfl rfl h7 h36 (by rw [arr_size, hdw.1]; exact there_of_row hA6 5 (by rw [arr_size, HAW.out.1]; exact Nat.le_refl _)) (by rw [arr_size, hdw.1]; exact info38) (ints_one _ _) ?_
           have HA7 : Hid (WAt (w'.setCells (gr + 1) 0 (arr .u64 d).toList) (gr + 1) d) := by
             have := heap_setCells (gr + 1) 51 (ints .u64 d) 0 w' (ints .u64 a) hA6 (by rw [ints_length, ints_length, hdw.1, HAW.out.1]; exact Nat.le_refl _)
             show _ = _
             rw [arr_list]
             refine Eq.trans this ?_
             rw [ints_length, hdw.1, List.drop_eq_nil_of_le (by rw [ints_length, HAW.out.1]; exact Nat.le_refl _)]
             simp [arr]
           have hgr : w'.grownBy (w'.setCells (gr + 1) 0 (arr .u64 d).toList) (some (gr + 1)) := grownBy_setCells _ _ (grownBy_refl _ _)
           have HR7 : Hid (WAt (w'.setCells (gr + 1) 0 (arr .u64 d).toList) gr r) := hR6.grown hgr (by omega)
           have HB7 : Hid (Below w.heap.size w (w'.setCells (gr + 1) 0 (arr .u64 d).toList)) := below_grown hB6 hgr (by have := hle; omega)
           have HDW : Hid (Wide d) := hdw
           have HDP : Hid (Po.pos Po.B d % Po.P = Po.acc R text (k + 1)) := by
             show _ = _
             rw [hdp, HPB.out, HRP.out, step_mod HP.out]
             rfl
           clear hd hb hA6 hR6 hB6 hsz h7 hgr hdw hdp inv h36 HA5 HR5 HB5 HK5
           generalize w'.setCells (gr + 1) 0 (arr .u64 d).toList = W7 at *
           obtain ⟨tmps, defers⟩ := a'
           obtain rfl : defers = [] := hdf
           replace e : tmps = _ := e
           generalize tmps.getD 32 undef = x32 at e
           generalize tmps.getD 33 undef = x33 at e
           generalize tmps.getD 34 undef = x34 at e
           generalize tmps.getD 35 undef = x35 at e
           generalize tmps.getD 36 undef = x36 at e
           simp only [Array.getD_eq_getD_getElem?] at e
           subst e
           go_wp2_with fail
           go_roundw
           case rel => exact ⟨k + 1, d, (by have := HAK.out; omega), (by have := HAK.out; go_num), HA7.out, HR7.out, HDW.out, HDP.out, HB7.out⟩
           case measure => have := HAK.out; have := HLT.out; simp [intOf]; omega)
    · have hkp : k = Po.parts text := by
        unfold Po.parts
        rw [HTL.out]
        omega
      have hl0 : ¬ ((16 * k : Nat) : Int) < (n : Int) := by omega
      have HPA : Hid (Po.pos Po.B a % Po.P + Po.pos 256 (key.drop 16) = Po.tagN key text) := by
        show _ = _
        rw [HP.out, hkp, HRR.out]
        rfl
      have hkr := range_drop (rangeAt_below HB.out HKR.out) 16
      have HKD : Hid (wr.rangeAt bk (ok + 16) (ints .u8 (key.drop 16))) := hkr
      have HDL : Hid ((key.drop 16).length = 16) := by
        show _ = _
        rw [List.length_drop, HKL.out]
      have HDB : Hid (∀ x ∈ key.drop 16, x < 256) := lt_drop HKB.out 16
      clear hkr HP HRR HRP HR HKR HT
      generalize ((16 * k : Nat) : Int) = zA at *
      clear hkp hk hlt
      go_wp2_with fail
      generalize key.drop 16 = K2 at *
      refine wp_region_last 7 (sumV a (.slice (some ⟨bk, ok, none⟩) 32 ck) (.slice (some ⟨bk, ok + 16, none⟩) 16 (ck - 16)) (Po.pos 256 K2) w.heap.size) (fun u u' => Below u.heap.size u u') (by kernel_rfl) ((Below.refl _ _).drew) below_trans' (sumV_kept _ _ _ _ _) (by kernel_rfl) (by kernel_rfl) ?_ ?_
      · intro i o a' w' hi5 hi inv hpre
        have hb : Below wr.heap.size wr w' := inv.grow
        obtain rfl|rfl|rfl|rfl|rfl|rfl|rfl : i = 0 ∨ i = 1 ∨ i = 2 ∨ i = 3 ∨ i = 4 ∨ i = 5 ∨ i = 6 := by omega
        · obtain rfl := Option.some.inj hi
          exact st_load38 7 (gr + 1) a HAW.out.1 rfl rfl rfl (by rw [inv.old 7 (notDst_spec (by kernel_rfl))]; rfl) (HA.out.below hb HA.out.lt) rfl
        · obtain rfl := Option.some.inj hi
          have h0 : a'.tmps.getD 37 undef = _ := pre_of hpre 0 37 (by kernel_rfl) (by kernel_rfl)
          refine st_call 29 #[a'.tmps.getD 37 undef] rfl rfl (by kernel_rfl) ?_
          rw [h0]
          refine (least_any a w' HAW.out).mono ?_
          rintro e w6 ⟨d, rfl, hd1, hd2, hb6⟩
          exact ⟨_, rfl, hb6, d, rfl, hd1, hd2⟩
        · obtain rfl := Option.some.inj hi
          exact st_value _ rfl rfl rfl (Below.refl _ _) (by show a'.tmps.getD 0 undef = _; rw [inv.old 0 (notDst_spec (by kernel_rfl))]; rfl)
        · obtain rfl := Option.some.inj hi
          have h0 : a'.tmps.getD 39 undef = _ := pre_of hpre 2 39 (by kernel_rfl) (by kernel_rfl)
          exact st_value (.slice (some ⟨bk, ok + 16, none⟩) 16 (ck - 16)) rfl rfl (slice16_run 39 rfl h0 hck) (Below.refl _ _) rfl
        · obtain rfl := Option.some.inj hi
          have h0 : a'.tmps.getD 40 undef = _ := pre_of hpre 3 40 (by kernel_rfl) (by kernel_rfl)
          refine st_call 30 #[a'.tmps.getD 40 undef] rfl rfl (by kernel_rfl) ?_
          rw [h0]
          refine (number_any K2 16 bk (ok + 16) (ck - 16) w' HDL.out (by omega) (by omega) HDB.out ?_ (rangeAt_below hb HKD.out)).mono ?_
          · have := Po.pos_lt (b := 256) (by decide) HDB.out
            rw [HDL.out] at this
            exact Nat.lt_trans this pow16
          rintro e w6 ⟨d, rfl, hd1, hd2, hb6⟩
          exact ⟨_, rfl, hb6, d, rfl, hd1, hd2⟩
        · obtain rfl := Option.some.inj hi
          obtain ⟨d1, h0, hw1, hp1⟩ := pre_of hpre 1 38 (by kernel_rfl) (by kernel_rfl)
          obtain ⟨d2, h1, hw2, hp2⟩ := pre_of hpre 4 41 (by kernel_rfl) (by kernel_rfl)
          refine st_call 27 #[a'.tmps.getD 38 undef, a'.tmps.getD 41 undef] rfl rfl (by kernel_rfl) ?_
          rw [h0, h1]
          refine (plus_any d1 d2 w' hw1.1 hw2.1 (fun x hx => Nat.lt_trans (hw1.2 x hx) (by decide)) (fun x hx => Nat.lt_trans (hw2.2 x hx) (by decide))).mono ?_
          rintro e w6 ⟨rfl, hb6⟩
          exact ⟨_, rfl, hb6, _, rfl, sumTo_length _ _ _, sum_lt (by decide) (by decide) hw1.2 hw2.2, by rw [sum_pos _ _ hw1.1 hw2.1, hp1, hp2]⟩
        · obtain rfl := Option.some.inj hi
          refine st_value (.pointer (some ⟨w'.heap.size, 0, none⟩)) (w'' := w'.alloc (Obj.cells zeros5 51)) rfl rfl (by kernel_rfl) ((Below.refl _ _).alloc (Nat.le_refl _) _) ⟨_, rfl, Nat.le_trans HB.out.size hb.size, heap_alloc_new w' _⟩
      · intro a' w' inv hd
        obtain ⟨d, h42, hdl, hdb, hdp⟩ := hd 5 42 (by decide) (by kernel_rfl)
        obtain ⟨g, h10, hgb, hg⟩ := hd 6 10 (by decide) (by kernel_rfl)
        have hb : Below wr.heap.size wr w' := inv.grow
        have hB6 : Below w.heap.size w w' := HB.out.trans (hb.mono HB.out.size)
        have hdf : a'.defers = [] := inv.defers
        have hsz : a'.tmps.size = 46 := inv.size
        have e := frame46b hsz (fun t ht => inv.old t (dst_within2 (x := 10) (lo := 37) (up := 42) (by kernel_rfl) t ht))
        rw [h10] at e
        refine wpOp_store 51 (.tmp 10) (.tmp 42) g 0 (arr .u64 d) rfl rfl rfl h10 h42 (by rw [arr_size, hdl]; exact there_of_row hg 5 (by simp [arr_size])) (by rw [arr_size, hdl]; exact info38) (ints_one _ _) ?_
        have HA7 : Hid (WAt (w'.setCells g 0 (arr .u64 d).toList) g d) := by
          have := heap_setCells g 51 (ints .u64 d) 0 w' (ints .u64 (List.replicate 5 0)) hg (by rw [ints_length, ints_length, hdl]; simp)
          show _ = _
          rw [arr_list]
          refine Eq.trans this ?_
          rw [ints_length, hdl]
          simp [arr, ints]
        have hgr : w'.grownBy (w'.setCells g 0 (arr .u64 d).toList) (some g) := grownBy_setCells _ _ (grownBy_refl _ _)
        have HB7 : Hid (Below w.heap.size w (w'.setCells g 0 (arr .u64 d).toList)) := below_grown hB6 hgr hgb
        have HDL7 : Hid (d.length = 5) := hdl
        have HDB7 : Hid (∀ x ∈ d, x < 134217728) := hdb
        have HDP : Hid (Po.pos Po.B d = Po.tagN key text) := hdp.trans HPA.out
        have HGB : Hid (w.heap.size ≤ g) := hgb
        clear hd hb hB6 hsz hgr hdl hdb hdp inv h42 h10 hg hgb HA HAW HPA HKD HDL HDB HKL HKB
        generalize w'.setCells g 0 (arr .u64 d).toList = W7 at *
        obtain ⟨tmps, defers⟩ := a'
        obtain rfl : defers = [] := hdf
        replace e : tmps = _ := e
        generalize tmps.getD 37 undef = x37 at e
        generalize tmps.getD 38 undef = x38 at e
        generalize tmps.getD 39 undef = x39 at e
        generalize tmps.getD 40 undef = x40 at e
        generalize tmps.getD 41 undef = x41 at e
        generalize tmps.getD 42 undef = x42 at e
        simp only [Array.getD_eq_getD_getElem?] at e
        subst e
        go_wp2_with fail
        refine (carry_any d g W7 HA7.out HDL7.out (fun x hx => Nat.lt_trans (HDB7.out x hx) (by decide))).mono ?_
        rintro e w8 ⟨c5, ov, rfl, hcd, hw8, hg8⟩
        have HC8 : Hid (Carried d c5 ov) := hcd
        have HCL : Hid (c5.length = 5) := hcd.1
        have H8 : Hid (WAt w8 g c5) := hw8
        have HB8 : Hid (Below w.heap.size w w8) := below_grown HB7.out hg8 HGB.out
        clear hcd hw8 hg8 HA7 HB7
        go_wp2_with (first | with_reducible (refine stop_load 51 ?_))
        refine Stop.go ?_
        with_reducible refine law_load_arr g 0 .u64 c5 _ ?lx ?lc under38 rfl ?li ?lk
        case lx => exact rfl
        case lc => exact rangeAt_of_row H8.out
        case li => rw [HCL.out]; exact info38
        go_wp2_with fail
        refine (bytes_any c5 w8 ⟨HC8.out.1, HC8.out.2.1⟩).mono ?_
        rintro e w9 ⟨v, rfl, ho9, hb9⟩
        have HO9 : Hid (w9.ownsRow w.heap.size 5 1 v 16 (ints .u8 (Po.tag key text))) := by
          have e1 : Po.digs 256 16 (Po.pos Po.B c5) = Po.tag key text := by
            unfold Po.tag
            rw [← HDP.out, ← HC8.out.2.2.1, ← Po.digs_mod (by decide) 16 (Po.pos Po.B c5), ← Po.digs_mod (by decide) 16 (Po.pos Po.B c5 + Po.B ^ 5 * ov)]
            congr 1
            rw [show Po.B ^ 5 * ov = 256 ^ 16 * (4 * ov) from by rw [← Nat.mul_assoc]; congr 1, Nat.add_mul_mod_self_left]
          rw [e1] at ho9
          exact own_base ho9 HB8.out.size
        have HB9 : Hid (Below w.heap.size w w9) := HB8.out.trans (hb9.mono HB8.out.size)
        clear ho9 hb9
        go_wp2_with fail
        refine bodyPost_ret (results_tmp2 rfl _ _ _) rfl ?_
        exact ⟨v, rfl, HO9.out, HB9.out⟩
set_option maxHeartbeats 1000000 in
theorem tag_bad (nk : Nat) (pk pt : Option Addr) (ck n ct : Nat) (w : World) (hk : nk ≠ 32) :
    Calls Try.prog 16 #[.slice pk nk ck, .slice pt n ct] w fun e w' => e = .returned (.tuple #[.slice none 0 0, .int .i64 11]) ∧ w' = w := by
  have h1 : ¬ (nk : Int) = 32 := by omega
  go_enter Try.func16, Try.ntmps16
  go_wp2_with fail
  refine bodyPost_ret (results_tmp2 rfl _ _ _) rfl ?_
  exact ⟨rfl, rfl⟩
end Go.Proofs.Ytnceiccciaihoaa.P4
