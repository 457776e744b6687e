/- The statement on two entries of one bucket. -/
import Derived.Test.YtfjdaafckiefdaaGreatDoorMgV
import Derived.Test.YtfjdaafckiefdaaGreatDoorMgU
import Derived.Test.YtfjdaafckiefdaaGreatDoorS15Same
import Derived.Test.YtfjdaafckiefdaaGreatDoorMgAC
import Derived.Test.YtfjdaafckiefdaaGreatDoorMgG
import Derived.Test.YtfjdaafckiefdaaGreatDoorMgJ
namespace Go.Proofs.YtfjdaafckiefdaaGreatDoor.S15
open Go.RowKit C8 E9
open S7 (Fr Kx By Sw TU Shr)
structure H3 (W : World) (e4 e5 e7 : Nat) (x y z : Obj) (w : World) : Prop where
  bel : Below e4 W w
  low : e4 ≤ w.heap.size
  ra : w.heap[e4]? = some x
  rb : w.heap[e5]? = some y
  rc : w.heap[e7]? = some z
theorem H3.only {W w w' : World} {e4 e5 e7 : Nat} {x y z : Obj} {bs : List Nat} (h : H3 W e4 e5 e7 x y z w) (ho : S7.Only bs w w') (hb : Below e4 w w') (h4 : e4 ∉ bs) (h5 : e5 ∉ bs) (h7 : e7 ∉ bs) : H3 W e4 e5 e7 x y z w' :=
  ⟨h.bel.trans hb, Nat.le_trans h.low ho.size, row_old ho h4 h.ra, row_old ho h5 h.rb, row_old ho h7 h.rc⟩
theorem H3.below {W w w' : World} {e4 e5 e7 : Nat} {x y z : Obj} (h : H3 W e4 e5 e7 x y z w) (hb : Below w.heap.size w w') : H3 W e4 e5 e7 x y z w' := h.only (bs := []) (S7.Only.of_below hb _) (hb.mono h.low) (by simp) (by simp) (by simp)
theorem alloc3 (W : World) (x y z : Obj) (w1 : World) (h : Below (((W.alloc x).alloc y).alloc z).heap.size (((W.alloc x).alloc y).alloc z) w1) : H3 W W.heap.size (W.heap.size + 1) (W.heap.size + 1 + 1) x y z w1 := by
  have h1 := S7.below_alloc' W x
  have h2 := S7.below_alloc' (W.alloc x) y
  have h3 := S7.below_alloc' ((W.alloc x).alloc y) z
  have r1 := heap_alloc_new W x
  have r2 := heap_alloc_new (W.alloc x) y
  have r3 := heap_alloc_new ((W.alloc x).alloc y) z
  have s1 : (W.alloc x).heap.size = W.heap.size + 1 := by simp
  have s2 : ((W.alloc x).alloc y).heap.size = W.heap.size + 1 + 1 := by simp
  have s3 : (((W.alloc x).alloc y).alloc z).heap.size = W.heap.size + 1 + 1 + 1 := by simp
  rw [s1] at r2 h2
  rw [s2] at r3 h3
  rw [s3] at h
  refine ⟨(h1.trans (h2.mono (by omega))).trans ((h3.mono (by omega)).trans (h.mono (by omega))), by have := h.size; omega, ?_, ?_, ?_⟩
  · rw [h.block _ (by omega), h3.block _ (by omega), h2.block _ (by omega)]; exact r1
  · rw [h.block _ (by omega), h3.block _ (by omega)]; exact r2
  · rw [h.block _ (by omega)]; exact r3
/-- Bytes that came in. -/
theorem by_arg {B : Nat} {W w : World} {v : Value} {l : List Nat} (h : Src W v l) (hB : B = W.heap.size) (hb : Below B W w) : By B w v l := by
  subst hB
  obtain ⟨hs, h1 | h1 | ⟨b, o, c, rfl, hc, hr⟩⟩ := h
  · exact ⟨hs, .inl h1⟩
  · exact ⟨hs, .inr (.inl h1)⟩
  · by_cases h0 : l = []
    · subst h0
      exact ⟨hs, .inr (.inl ⟨_, _, rfl, rfl⟩)⟩
    · have hlt := range_lt hr (ints_ne h0)
      exact ⟨hs, .inr (.inr ⟨b, o, c, rfl, hc, range_kept hr (hb.block b hlt), .inl hlt⟩)⟩
def MdV (W : World) (B : Nat) (a : En) (v : Value) (w : World) : Prop := ∃ np nc vp vc q c, v = .agg (EnV a np nc vp vc q c) ∧ EnOf W B w (.agg (EnV a np nc vp vc q c)) a
def LnV (n : Nat) (v : Value) (_ : World) : Prop := ∃ q c, v = .slice q n c
def KeyW (B : Nat) (k : List Nat) (v : Value) (w : World) : Prop := ∃ kq kc, v = .slice kq 32 kc ∧ By B w (.slice kq 32 kc) k
def SealV (B : Nat) (r : Rec) (e : Int) (v : Value) (w : World) : Prop := ∃ q c, v = .tuple #[.agg (RecV r q c), .int .i64 e] ∧ By B w (.slice q r.box.length c) r.box
def RecW (B : Nat) (r : Rec) (v : Value) (w : World) : Prop := ∃ q c, v = .agg (RecV r q c) ∧ By B w (.slice q r.box.length c) r.box
theorem al59_run {o : Oper} {a' : Act} {w' : World} (ho : o.op = .alloc 59) : (execOp a'.eval o).run Tryz.prog w' = .ok (.value (.pointer (some ⟨w'.heap.size, 0, none⟩))) (w'.alloc (.cells z9 59)) := by
  unfold execOp z9
  simp only [ho]
  simp [go_sem]
theorem al24_run {o : Oper} {a' : Act} {w' : World} (ho : o.op = .alloc 24) : (execOp a'.eval o).run Tryz.prog w' = .ok (.value (.pointer (some ⟨w'.heap.size, 0, none⟩))) (w'.alloc (.cells z5 24)) := by
  unfold execOp z5
  simp only [ho]
  simp [go_sem]
theorem ld59r {b : Nat} {cs : Array Value} {t : TypeId} {fr : Nat × Nat} {w : World} (h : w.heap[b]? = some (.cells cs t fr) ∧ cs.size = 9) : (Instr.loadAt 59 (.pointer (some ⟨b, 0, none⟩))).run Tryz.prog w = .ok (.agg cs) w := by
  simp only [Instr.loadAt, Instr.sureAddr, Sem.run_bind, Sem.run_pure, Result.andThen_ok, run_loadVar_row (P := Tryz.prog) w b t 59 cs fr _ h.1 Tryz.underlying59 rfl (by rw [h.2]; kernel_rfl)]
theorem lenB_run {o : Oper} {a' : Act} {w' : World} (t : Tmp) (q : Option Addr) (n c : Nat) (ho : o.op = .call { callee := .builtin .len, args := #[.tmp t], argTypes := #[22] }) (h : a'.tmps.getD t undef = .slice q n c) : (execOp a'.eval o).run Tryz.prog w' = .ok (.value (.int .i64 (n : Int))) w' := by
  have he : a'.eval (.tmp t) = .slice q n c := h
  unfold execOp
  simp only [ho]
  generalize a'.eval = r at *
  simp [he, go_sem, resolve, invoke, builtin]
theorem addK_run {o : Oper} {a' : Act} {w' : World} (s : Tmp) (x : Nat) (y : Int) (z : Nat) (ho : o.op = .binOp .add 3 (.tmp s) (.const (.int .i64 y)) 3) (h0 : a'.tmps.getD s undef = .int .i64 (x : Int)) (hz : (x : Int) + y = (z : Int)) (hl : z ≤ 1000000) : (execOp a'.eval o).run Tryz.prog w' = .ok (.value (.int .i64 (z : Int))) w' := by
  have he : a'.eval (.tmp s) = .int .i64 (x : Int) := h0
  have hf : a'.eval (.const (.int .i64 y)) = .int .i64 y := rfl
  have hw : IntKind.i64.wrap ((x : Int) + y) = (z : Int) := by
    rw [hz, IntKind.wrap_i64]
    omega
  unfold execOp
  simp only [ho]
  rw [he, hf]
  simp [go_sem, hw]
def rg5 (W : World) (e4 : Nat) (a b : En) (a1 a2 a3 a6 a7 a8 b1 b3 b6 b7' b8 : Int) (np vp wp np' vp' wp' : Option Addr) (nl nc vl vc wl wc nl' nc' vl' vc' wl' wc' : Nat) : Nat → Value → World → Prop
  | 0 => IsV (.agg #[.int .i64 a1, .int .i64 a2, .int .i64 a3, .slice np nl nc, .slice vp vl vc, .int .i64 a6, .int .i64 a7, .int .i64 a8, .slice wp wl wc])
  | 1 => MdV W e4 a
  | 2 => IsV (.agg #[.int .i64 b1, .int .i64 a2, .int .i64 b3, .slice np' nl' nc', .slice vp' vl' vc', .int .i64 b6, .int .i64 b7', .int .i64 b8, .slice wp' wl' wc'])
  | 3 => MdV W e4 b
  | 4 => PtV
  | 5 => PtV
  | 6 => IsV undef
  | 7 => IsV undef
  | _ => fun _ _ => True
theorem rg5_kept (W : World) (e4 : Nat) (a b : En) (a1 a2 a3 a6 a7 a8 b1 b3 b6 b7' b8 : Int) (np vp wp np' vp' wp' : Option Addr) (nl nc vl vc wl wc nl' nc' vl' vc' wl' wc' : Nat) : ∀ i v w w', rg5 W e4 a b a1 a2 a3 a6 a7 a8 b1 b3 b6 b7' b8 np vp wp np' vp' wp' nl nc vl vc wl wc nl' nc' vl' vc' wl' wc' i v w → Kx ([some 59] ++ TU) e4 w w' → rg5 W e4 a b a1 a2 a3 a6 a7 a8 b1 b3 b6 b7' b8 np vp wp np' vp' wp' nl nc vl vc wl wc nl' nc' vl' vc' wl' wc' i v w'
  | 0, _, _, _, h, _ => h
  | 1, _, _, _, h, ho => (by obtain ⟨z1, z2, z3, z4, z5, z6, h1, h2⟩ := h; exact ⟨z1, z2, z3, z4, z5, z6, h1, h2.kx ho (by decide)⟩)
  | 2, _, _, _, h, _ => h
  | 3, _, _, _, h, ho => (by obtain ⟨z1, z2, z3, z4, z5, z6, h1, h2⟩ := h; exact ⟨z1, z2, z3, z4, z5, z6, h1, h2.kx ho (by decide)⟩)
  | 4, _, _, _, h, _ => h
  | 5, _, _, _, h, _ => h
  | 6, _, _, _, h, _ => h
  | 7, _, _, _, h, _ => h
  | _ + 8, _, _, _, _, _ => trivial
def rg6f (C9 : Array Value) : Nat → Value → World → Prop
  | 0 => IsV (.agg C9)
  | 1 => IsV (.bool false)
  | 2 => IsV (.bool true)
  | 3 => IsV (.bool true)
  | 4 => IsV undef
  | 5 => IsV undef
  | 6 => IsV undef
  | 7 => IsV (.bool true)
  | 8 => IsV (.bool true)
  | 9 => IsV undef
  | 10 => IsV undef
  | 11 => IsV undef
  | 12 => IsV undef
  | 13 => IsV undef
  | 14 => IsV undef
  | 15 => IsV undef
  | 16 => IsV undef
  | 17 => IsV undef
  | 18 => IsV undef
  | 19 => IsV undef
  | 20 => IsV (.bool true)
  | _ => fun _ _ => True
theorem rg6f_kept (C9 : Array Value) {e4 : Nat} : ∀ i v w w', rg6f C9 i v w → Kx ([] ++ TU) e4 w w' → rg6f C9 i v w'
  | 0, _, _, _, h, _ => h
  | 1, _, _, _, h, _ => h
  | 2, _, _, _, h, _ => h
  | 3, _, _, _, h, _ => h
  | 4, _, _, _, h, _ => h
  | 5, _, _, _, h, _ => h
  | 6, _, _, _, h, _ => h
  | 7, _, _, _, h, _ => h
  | 8, _, _, _, h, _ => h
  | 9, _, _, _, h, _ => h
  | 10, _, _, _, h, _ => h
  | 11, _, _, _, h, _ => h
  | 12, _, _, _, h, _ => h
  | 13, _, _, _, h, _ => h
  | 14, _, _, _, h, _ => h
  | 15, _, _, _, h, _ => h
  | 16, _, _, _, h, _ => h
  | 17, _, _, _, h, _ => h
  | 18, _, _, _, h, _ => h
  | 19, _, _, _, h, _ => h
  | 20, _, _, _, h, _ => h
  | _ + 21, _, _, _, _, _ => trivial
def rg6g (C9 C10 : Array Value) : Nat → Value → World → Prop
  | 0 => IsV (.agg C9)
  | 1 => IsV (.bool true)
  | 2 => IsV (.bool false)
  | 3 => IsV (.bool false)
  | 4 => IsV (.agg C10)
  | 5 => IsV (.bool false)
  | 6 => IsV (.bool true)
  | 7 => IsV (.bool true)
  | 8 => IsV (.bool true)
  | 9 => IsV undef
  | 10 => IsV undef
  | 11 => IsV undef
  | 12 => IsV undef
  | 13 => IsV undef
  | 14 => IsV undef
  | 15 => IsV undef
  | 16 => IsV undef
  | 17 => IsV undef
  | 18 => IsV undef
  | 19 => IsV undef
  | 20 => IsV (.bool true)
  | _ => fun _ _ => True
theorem rg6g_kept (C9 C10 : Array Value) {e4 : Nat} : ∀ i v w w', rg6g C9 C10 i v w → Kx ([] ++ TU) e4 w w' → rg6g C9 C10 i v w'
  | 0, _, _, _, h, _ => h
  | 1, _, _, _, h, _ => h
  | 2, _, _, _, h, _ => h
  | 3, _, _, _, h, _ => h
  | 4, _, _, _, h, _ => h
  | 5, _, _, _, h, _ => h
  | 6, _, _, _, h, _ => h
  | 7, _, _, _, h, _ => h
  | 8, _, _, _, h, _ => h
  | 9, _, _, _, h, _ => h
  | 10, _, _, _, h, _ => h
  | 11, _, _, _, h, _ => h
  | 12, _, _, _, h, _ => h
  | 13, _, _, _, h, _ => h
  | 14, _, _, _, h, _ => h
  | 15, _, _, _, h, _ => h
  | 16, _, _, _, h, _ => h
  | 17, _, _, _, h, _ => h
  | 18, _, _, _, h, _ => h
  | 19, _, _, _, h, _ => h
  | 20, _, _, _, h, _ => h
  | _ + 21, _, _, _, _, _ => trivial
def rg6e (a b : En) (C9 C10 : Array Value) (nz : Bool) : Nat → Value → World → Prop
  | 0 => IsV (.agg C9)
  | 1 => IsV (.bool true)
  | 2 => IsV (.bool false)
  | 3 => IsV (.bool false)
  | 4 => IsV (.agg C10)
  | 5 => IsV (.bool true)
  | 6 => IsV (.bool false)
  | 7 => IsV (.bool false)
  | 8 => IsV (.bool false)
  | 9 => IsV (.agg C9)
  | 10 => LnV (E9.bytes a).length
  | 11 => IsV (.int .i64 ((E9.bytes a).length : Int))
  | 12 => IsV (.int .i64 ((((E9.bytes a).length + 36 : Nat)) : Int))
  | 13 => IsV (.int .i64 (bsz ((E9.bytes a).length + 36) : Nat))
  | 14 => IsV (.agg C10)
  | 15 => LnV (E9.bytes b).length
  | 16 => IsV (.int .i64 ((E9.bytes b).length : Int))
  | 17 => IsV (.int .i64 ((((E9.bytes b).length + 36 : Nat)) : Int))
  | 18 => IsV (.int .i64 (bsz ((E9.bytes b).length + 36) : Nat))
  | 19 => IsV (.bool nz)
  | 20 => IsV (.bool nz)
  | _ => fun _ _ => True
theorem rg6e_kept (a b : En) (C9 C10 : Array Value) (nz : Bool) {e4 : Nat} : ∀ i v w w', rg6e a b C9 C10 nz i v w → Kx ([] ++ TU) e4 w w' → rg6e a b C9 C10 nz i v w'
  | 0, _, _, _, h, _ => h
  | 1, _, _, _, h, _ => h
  | 2, _, _, _, h, _ => h
  | 3, _, _, _, h, _ => h
  | 4, _, _, _, h, _ => h
  | 5, _, _, _, h, _ => h
  | 6, _, _, _, h, _ => h
  | 7, _, _, _, h, _ => h
  | 8, _, _, _, h, _ => h
  | 9, _, _, _, h, _ => h
  | 10, _, _, _, h, _ => h
  | 11, _, _, _, h, _ => h
  | 12, _, _, _, h, _ => h
  | 13, _, _, _, h, _ => h
  | 14, _, _, _, h, _ => h
  | 15, _, _, _, h, _ => h
  | 16, _, _, _, h, _ => h
  | 17, _, _, _, h, _ => h
  | 18, _, _, _, h, _ => h
  | 19, _, _, _, h, _ => h
  | 20, _, _, _, h, _ => h
  | _ + 21, _, _, _, _, _ => trivial
def rg9 (e4 p : Nat) (RA : Rec) (xe : Int) (q1 : Option Addr) (n c : Nat) (a1 a2 a3 a6 a7 a8 : Int) (np vp wp : Option Addr) (nl nc vl vc wl wc : Nat) (r1 r2 r3 r4 : Int) (rq : Option Addr) (rl rc : Nat) : Nat → Value → World → Prop
  | 0 => IsV (.pointer (some ⟨p, 0, none⟩))
  | 1 => IsV (.slice q1 n c)
  | 2 => IsV (.pointer (some ⟨p, 0, none⟩))
  | 3 => KeyW e4 aK
  | 4 => IsV (.agg #[.int .i64 r1, .int .i64 r2, .int .i64 r3, .int .i64 r4, .slice rq rl rc])
  | 5 => IsV (.agg #[.int .i64 a1, .int .i64 a2, .int .i64 a3, .slice np nl nc, .slice vp vl vc, .int .i64 a6, .int .i64 a7, .int .i64 a8, .slice wp wl wc])
  | 6 => SealV e4 RA xe
  | 7 => SealV e4 RA xe
  | 8 => RecW e4 RA
  | 9 => IsV (.int .i64 xe)
  | 10 => PtV
  | 11 => IsV undef
  | 12 => IsV (.int .i64 xe)
  | _ => fun _ _ => True
theorem rg9_kept (e4 p : Nat) (RA : Rec) (xe : Int) (q1 : Option Addr) (n c : Nat) (a1 a2 a3 a6 a7 a8 : Int) (np vp wp : Option Addr) (nl nc vl vc wl wc : Nat) (r1 r2 r3 r4 : Int) (rq : Option Addr) (rl rc : Nat) : ∀ i v w w', rg9 e4 p RA xe q1 n c a1 a2 a3 a6 a7 a8 np vp wp nl nc vl vc wl wc r1 r2 r3 r4 rq rl rc i v w → Kx ([some 24] ++ TU) e4 w w' → rg9 e4 p RA xe q1 n c a1 a2 a3 a6 a7 a8 np vp wp nl nc vl vc wl wc r1 r2 r3 r4 rq rl rc i v w'
  | 0, _, _, _, h, _ => h
  | 1, _, _, _, h, _ => h
  | 2, _, _, _, h, _ => h
  | 3, _, _, _, h, ho => (by obtain ⟨z1, z2, h1, h2⟩ := h; exact ⟨z1, z2, h1, h2.kx ho (by decide)⟩)
  | 4, _, _, _, h, _ => h
  | 5, _, _, _, h, _ => h
  | 6, _, _, _, h, ho => (by obtain ⟨z1, z2, h1, h2⟩ := h; exact ⟨z1, z2, h1, h2.kx ho (by decide)⟩)
  | 7, _, _, _, h, ho => (by obtain ⟨z1, z2, h1, h2⟩ := h; exact ⟨z1, z2, h1, h2.kx ho (by decide)⟩)
  | 8, _, _, _, h, ho => (by obtain ⟨z1, z2, h1, h2⟩ := h; exact ⟨z1, z2, h1, h2.kx ho (by decide)⟩)
  | 9, _, _, _, h, _ => h
  | 10, _, _, _, h, _ => h
  | 11, _, _, _, h, _ => h
  | 12, _, _, _, h, _ => h
  | _ + 13, _, _, _, _, _ => trivial
def rg10 (e4 p2 : Nat) (RA : Rec) (xe : Int) (q1 : Option Addr) (n c : Nat) (a2 b1 b3 b6 b7' b8 : Int) (np' vp' wp' : Option Addr) (nl' nc' vl' vc' wl' wc' : Nat) (r1 r2 r3 r4 : Int) (rq : Option Addr) (rl rc : Nat) : Nat → Value → World → Prop
  | 0 => IsV (.pointer (some ⟨p2, 0, none⟩))
  | 1 => IsV (.slice q1 n c)
  | 2 => IsV (.pointer (some ⟨p2, 0, none⟩))
  | 3 => KeyW e4 aK
  | 4 => IsV (.agg #[.int .i64 r1, .int .i64 r2, .int .i64 r3, .int .i64 r4, .slice rq rl rc])
  | 5 => IsV (.agg #[.int .i64 b1, .int .i64 a2, .int .i64 b3, .slice np' nl' nc', .slice vp' vl' vc', .int .i64 b6, .int .i64 b7', .int .i64 b8, .slice wp' wl' wc'])
  | 6 => SealV e4 RA xe
  | 7 => SealV e4 RA xe
  | 8 => RecW e4 RA
  | 9 => IsV (.int .i64 xe)
  | 10 => PtV
  | 11 => IsV undef
  | 12 => IsV (.int .i64 xe)
  | _ => fun _ _ => True
theorem rg10_kept (e4 p2 : Nat) (RA : Rec) (xe : Int) (q1 : Option Addr) (n c : Nat) (a2 b1 b3 b6 b7' b8 : Int) (np' vp' wp' : Option Addr) (nl' nc' vl' vc' wl' wc' : Nat) (r1 r2 r3 r4 : Int) (rq : Option Addr) (rl rc : Nat) : ∀ i v w w', rg10 e4 p2 RA xe q1 n c a2 b1 b3 b6 b7' b8 np' vp' wp' nl' nc' vl' vc' wl' wc' r1 r2 r3 r4 rq rl rc i v w → Kx ([some 24] ++ TU) e4 w w' → rg10 e4 p2 RA xe q1 n c a2 b1 b3 b6 b7' b8 np' vp' wp' nl' nc' vl' vc' wl' wc' r1 r2 r3 r4 rq rl rc i v w'
  | 0, _, _, _, h, _ => h
  | 1, _, _, _, h, _ => h
  | 2, _, _, _, h, _ => h
  | 3, _, _, _, h, ho => (by obtain ⟨z1, z2, h1, h2⟩ := h; exact ⟨z1, z2, h1, h2.kx ho (by decide)⟩)
  | 4, _, _, _, h, _ => h
  | 5, _, _, _, h, _ => h
  | 6, _, _, _, h, ho => (by obtain ⟨z1, z2, h1, h2⟩ := h; exact ⟨z1, z2, h1, h2.kx ho (by decide)⟩)
  | 7, _, _, _, h, ho => (by obtain ⟨z1, z2, h1, h2⟩ := h; exact ⟨z1, z2, h1, h2.kx ho (by decide)⟩)
  | 8, _, _, _, h, ho => (by obtain ⟨z1, z2, h1, h2⟩ := h; exact ⟨z1, z2, h1, h2.kx ho (by decide)⟩)
  | 9, _, _, _, h, _ => h
  | 10, _, _, _, h, _ => h
  | 11, _, _, _, h, _ => h
  | 12, _, _, _, h, _ => h
  | _ + 13, _, _, _, _, _ => trivial
set_option maxHeartbeats 8000000 in
set_option maxRecDepth 20000 in
theorem hides_main (a b : En) (a1 a2 a3 a6 a7 a8 b1 b2 b3 b6 b7' b8 : Int) (np vp wp np' vp' wp' : Option Addr) (nl nc vl vc wl wc nl' nc' vl' vc' wl' wc' : Nat) (q1 : Option Addr) (n c : Nat) (k : List Nat) (r : Rec) (r1 r2 r3 r4 : Int) (rq : Option Addr) (rl rc : Nat) (W : World) (ha : EnIs W (.agg #[.int .i64 a1, .int .i64 a2, .int .i64 a3, .slice np nl nc, .slice vp vl vc, .int .i64 a6, .int .i64 a7, .int .i64 a8, .slice wp wl wc]) a) (hb : EnIs W (.agg #[.int .i64 b1, .int .i64 b2, .int .i64 b3, .slice np' nl' nc', .slice vp' vl' vc', .int .i64 b6, .int .i64 b7', .int .i64 b8, .slice wp' wl' wc']) b) (hwa : a.writer = a2) (hwb : b.writer = b2) (hr : RecV r rq rc = #[.int .i64 r1, .int .i64 r2, .int .i64 r3, .int .i64 r4, .slice rq rl rc]) (hk : Src W (.slice q1 n c) k) :
    Calls Tryz.prog 6 #[.agg #[.int .i64 a1, .int .i64 a2, .int .i64 a3, .slice np nl nc, .slice vp vl vc, .int .i64 a6, .int .i64 a7, .int .i64 a8, .slice wp wl wc], .agg #[.int .i64 b1, .int .i64 b2, .int .i64 b3, .slice np' nl' nc', .slice vp' vl' vc', .int .i64 b6, .int .i64 b7', .int .i64 b8, .slice wp' wl' wc'], .slice q1 n c, .agg #[.int .i64 r1, .int .i64 r2, .int .i64 r3, .int .i64 r4, .slice rq rl rc]] W fun e w' => e = .returned (.bool true) ∧ Below W.heap.size W w' := by
  have HA := hid ha
  have HB := hid hb
  have HK := hid hk
  have HR := hid hr
  have HWA := hid hwa
  have HWB := hid hwb
  clear ha hb hk hr hwa hwb
  go_enter Tryz.func6, Tryz.ntmps6
  go_wp2_with fail
  have h3 := alloc3 W (.cells #[.int .i64 a1, .int .i64 a2, .int .i64 a3, .slice np nl nc, .slice vp vl vc, .int .i64 a6, .int .i64 a7, .int .i64 a8, .slice wp wl wc] 49) (.cells #[.int .i64 b1, .int .i64 b2, .int .i64 b3, .slice np' nl' nc', .slice vp' vl' vc', .int .i64 b6, .int .i64 b7', .int .i64 b8, .slice wp' wl' wc'] 49) (.cells #[.int .i64 r1, .int .i64 r2, .int .i64 r3, .int .i64 r4, .slice rq rl rc] 24)
  refine (anchor_any _).mono ?_
  rintro e w1 ⟨rfl, h1⟩
  have H1 := hid (h3 w1 h1)
  clear h1 h3
  generalize W.heap.size + 1 + 1 = e7 at *
  generalize W.heap.size + 1 = e5 at *
  obtain ⟨e4, HE4⟩ : ∃ e4, Hid (e4 = W.heap.size) := ⟨_, rfl⟩
  rw [← HE4.out] at H1 ⊢
  have HW0 : Hid (∀ w, Below e4 W w → Below W.heap.size W w) := fun w h => by rw [← HE4.out]; exact h
  have HSA : Hid (∀ w, Below e4 W w → Calls Tryz.prog 20 #[.agg #[.int .i64 a1, .int .i64 a2, .int .i64 a3, .slice np nl nc, .slice vp vl vc, .int .i64 a6, .int .i64 a7, .int .i64 a8, .slice wp wl wc]] w fun e w' => e = .returned (.bool (small a)) ∧ Below w.heap.size w w') := fun w h => small_any a _ w (HA.out.below (HW0.out w h))
  have HSB : Hid (∀ w, Below e4 W w → Calls Tryz.prog 20 #[.agg #[.int .i64 b1, .int .i64 b2, .int .i64 b3, .slice np' nl' nc', .slice vp' vl' vc', .int .i64 b6, .int .i64 b7', .int .i64 b8, .slice wp' wl' wc']] w fun e w' => e = .returned (.bool (small b)) ∧ Below w.heap.size w w') := fun w h => small_any b _ w (HB.out.below (HW0.out w h))
  obtain ⟨sa, HSS⟩ : ∃ sa, Hid (small a = sa) := ⟨_, rfl⟩
  obtain ⟨sb, HST⟩ : ∃ sb, Hid (small b = sb) := ⟨_, rfl⟩
  rw [HSS.out] at HSA
  rw [HST.out] at HSB
  obtain ⟨c0, c1, c2, c3, c4, c5, c6, c7, c8⟩ := e9_cells H1.out.ra
  cases sa with
  | false =>
    go_wp2_with fail
    refine (HSA.out _ H1.out.bel).mono ?_
    rintro e w2 ⟨rfl, h2⟩
    have G2 : Hid (Below e4 W w2) := (H1.out.below h2).bel
    clear h2 c0 c1 c2 c3 c4 c5 c6 c7 c8
    go_wp2_with fail
    go_ret
    exact ⟨rfl, HW0.out _ G2.out⟩
  | true =>
    go_wp2_with fail
    refine (HSA.out _ H1.out.bel).mono ?_
    rintro e w2 ⟨rfl, h2⟩
    have H2 := hid (H1.out.below h2)
    clear h2 c0 c1 c2 c3 c4 c5 c6 c7 c8 H1
    obtain ⟨c0, c1, c2, c3, c4, c5, c6, c7, c8⟩ := e9_cells H2.out.rb
    cases sb with
    | false =>
      go_wp2_with fail
      refine (HSB.out _ H2.out.bel).mono ?_
      rintro e w3 ⟨rfl, h2⟩
      have G2 : Hid (Below e4 W w3) := (H2.out.below h2).bel
      clear h2 c0 c1 c2 c3 c4 c5 c6 c7 c8
      go_wp2_with fail
      go_ret
      exact ⟨rfl, HW0.out _ G2.out⟩
    | true =>
      go_wp2_with fail
      refine (HSB.out _ H2.out.bel).mono ?_
      rintro e w4 ⟨rfl, h2⟩
      have H4 := hid (H2.out.below h2)
      clear h2 c0 c1 c2 c3 c4 c5 c6 c7 c8 H2 HSA HSB
      by_cases hn : 100 < (n : Int)
      · clear HA HB HK
        go_wp2_with fail
        go_ret
        exact ⟨rfl, HW0.out _ H4.out.bel⟩
      obtain ⟨-, y1, -⟩ := e9_cells H4.out.ra
      obtain ⟨-, z1, -⟩ := e9_cells H4.out.rb
      by_cases hab : a2 = b2
      case neg =>
        have q2 : (a2 != b2) = true := by simp [hab]
        go_wp2_with fail
        go_ret
        exact ⟨rfl, HW0.out _ H4.out.bel⟩
      subst hab
      go_upto_region 5 with fail
      clear y1 z1
      have HMA : Hid (∀ w, S7.Only [] w4 w → Calls Tryz.prog 24 #[.agg #[.int .i64 a1, .int .i64 a2, .int .i64 a3, .slice np nl nc, .slice vp vl vc, .int .i64 a6, .int .i64 a7, .int .i64 a8, .slice wp wl wc]] w fun e w' => ∃ v, e = .returned v ∧ EnOf W e4 w' v a ∧ Below w.heap.size w w') := fun w h => by
        have h1 := H4.out.bel.trans (h.below H4.out.low (fun y hy => by cases hy))
        exact made3_any W e4 a _ w (Nat.le_trans H4.out.low h.size) (HW0.out w h1) HA.out (by have := (small_of HSS.out).2.2.2; omega)
      have HMB : Hid (∀ w, S7.Only [] w4 w → Calls Tryz.prog 24 #[.agg #[.int .i64 b1, .int .i64 a2, .int .i64 b3, .slice np' nl' nc', .slice vp' vl' vc', .int .i64 b6, .int .i64 b7', .int .i64 b8, .slice wp' wl' wc']] w fun e w' => ∃ v, e = .returned v ∧ EnOf W e4 w' v b ∧ Below w.heap.size w w') := fun w h => by
        have h1 := H4.out.bel.trans (h.below H4.out.low (fun y hy => by cases hy))
        exact made3_any W e4 b _ w (Nat.le_trans H4.out.low h.size) (HW0.out w h1) HB.out (by have := (small_of HST.out).2.2.2; omega)
      have K : Amk [] (fun _ _ => True) e4 TU [some 59] [⟨4, 6, 9, 59, z9, (fun C w => EnOf W e4 w (.agg C) a)⟩, ⟨5, 7, 10, 59, z9, (fun C w => EnOf W e4 w (.agg C) b)⟩] w4 := ⟨H4.out.low, (all2 ⟨(by decide : some 59 ∉ TU), (by decide : some 59 ∈ ([some 59] : List (Option TypeId))), (by decide : 4 ∉ ([] : List Nat)), (by decide : 6 ∉ ([] : List Nat))⟩ ⟨(by decide : some 59 ∉ TU), (by decide : some 59 ∈ ([some 59] : List (Option TypeId))), (by decide : 5 ∉ ([] : List Nat)), (by decide : 7 ∉ ([] : List Nat))⟩), (all2 (all2 (fun _ => rfl) (fun h => by rcases h with h | h | h; exact absurd (show (4 : Nat) = 5 from h) (by decide); exact absurd (show (6 : Nat) = 7 from h) (by decide); exact absurd (show (9 : Nat) = 10 from h) (by decide))) (all2 (fun h => by rcases h with h | h | h; exact absurd (show (5 : Nat) = 4 from h) (by decide); exact absurd (show (7 : Nat) = 6 from h) (by decide); exact absurd (show (10 : Nat) = 9 from h) (by decide)) (fun _ => rfl))), (all2 (all2 (by decide : (4 : Nat) ≠ 6) (by decide : (4 : Nat) ≠ 7)) (all2 (by decide : (5 : Nat) ≠ 6) (by decide : (5 : Nat) ≠ 7))), (all2 (fun C u u' h ho => EnOf.kx h ho (by decide)) (fun C u u' h ho => EnOf.kx h ho (by decide))), fun _ _ _ _ _ => trivial⟩
      have hd0 := S7.below_drewN 1 w4 w4.heap.size
      refine wp_region_sa (rg5 W e4 a b a1 a2 a3 a6 a7 a8 b1 b3 b6 b7' b8 np vp wp np' vp' wp' nl nc vl vc wl wc nl' nc' vl' vc' wl' wc') (fun u u' => Kx ([some 59] ++ TU) e4 u u') (Am [] [] (fun _ _ => True) w4 [⟨4, 6, 9, 59, z9, (fun C w => EnOf W e4 w (.agg C) a)⟩, ⟨5, 7, 10, 59, z9, (fun C w => EnOf W e4 w (.agg C) b)⟩]) (by kernel_rfl) (Kx.of_below hd0 K.low) (fun _ _ _ h k => h.trans k) (rg5_kept W e4 a b a1 a2 a3 a6 a7 a8 b1 b3 b6 b7' b8 np vp wp np' vp' wp' nl nc vl vc wl wc nl' nc' vl' vc' wl' wc') (by kernel_rfl) (Am.start (S7.Only.of_below hd0 _) (trivial)) ?_ ?_
      · intro i o a' w' f hi inv hS hfi hfw hpre
        have hlt : i < 8 := (Array.getElem?_eq_some_iff.1 hi).1
        obtain rfl|rfl|rfl|rfl|rfl|rfl|rfl|rfl : i = 0 ∨ i = 1 ∨ i = 2 ∨ i = 3 ∨ i = 4 ∨ i = 5 ∨ i = 6 ∨ i = 7 := by omega
        · obtain rfl := Option.some.inj hi
          have h0 : a'.tmps.getD 4 undef = (.pointer (some ⟨e4, 0, none⟩)) := by rw [inv.old 4 (notDst_spec (by kernel_rfl))]; rfl
          exact am_value K _ rfl rfl (load_run 49 4 e4 (0) _ rfl h0 (ld25 ⟨row_old hS.old (by simp) H4.out.ra, rfl⟩)) (by decide) (all2 ⟨(by decide : (0 : Nat) ≠ 4), (by decide : (0 : Nat) ≠ 6)⟩ ⟨(by decide : (0 : Nat) ≠ 5), (by decide : (0 : Nat) ≠ 7)⟩) (all2 (by decide : (some 39 : Option Tmp) ≠ some 9) (by decide : (some 39 : Option Tmp) ≠ some 10)) hS rfl
        · obtain rfl := Option.some.inj hi
          have h0 : a'.tmps.getD 39 undef = (.agg #[.int .i64 a1, .int .i64 a2, .int .i64 a3, .slice np nl nc, .slice vp vl vc, .int .i64 a6, .int .i64 a7, .int .i64 a8, .slice wp wl wc]) := pre_of hpre 0 39 (by kernel_rfl) (by kernel_rfl)
          refine am_quiet K 24 #[a'.tmps.getD 39 undef] rfl rfl (by kernel_rfl) (by decide) (all2 ⟨(by decide : (1 : Nat) ≠ 4), (by decide : (1 : Nat) ≠ 6)⟩ ⟨(by decide : (1 : Nat) ≠ 5), (by decide : (1 : Nat) ≠ 7)⟩) (all2 (by decide : (some 40 : Option Tmp) ≠ some 9) (by decide : (some 40 : Option Tmp) ≠ some 10)) hS ?_
          rw [h0]
          exact (HMA.out w' hS.old).mono (by rintro x u ⟨v, rfl, ⟨y1, y2, y3, y4, y5, y6, y7, rfl, k1⟩, k2⟩; exact ⟨_, rfl, k2, ⟨_, _, _, _, _, _, rfl, ⟨_, _, _, _, _, _, _, rfl, k1⟩⟩⟩)
        · obtain rfl := Option.some.inj hi
          have h0 : a'.tmps.getD 5 undef = (.pointer (some ⟨e5, 0, none⟩)) := by rw [inv.old 5 (notDst_spec (by kernel_rfl))]; rfl
          exact am_value K _ rfl rfl (load_run 49 5 e5 (0) _ rfl h0 (ld25 ⟨row_old hS.old (by simp) H4.out.rb, rfl⟩)) (by decide) (all2 ⟨(by decide : (2 : Nat) ≠ 4), (by decide : (2 : Nat) ≠ 6)⟩ ⟨(by decide : (2 : Nat) ≠ 5), (by decide : (2 : Nat) ≠ 7)⟩) (all2 (by decide : (some 41 : Option Tmp) ≠ some 9) (by decide : (some 41 : Option Tmp) ≠ some 10)) hS rfl
        · obtain rfl := Option.some.inj hi
          have h0 : a'.tmps.getD 41 undef = (.agg #[.int .i64 b1, .int .i64 a2, .int .i64 b3, .slice np' nl' nc', .slice vp' vl' vc', .int .i64 b6, .int .i64 b7', .int .i64 b8, .slice wp' wl' wc']) := pre_of hpre 2 41 (by kernel_rfl) (by kernel_rfl)
          refine am_quiet K 24 #[a'.tmps.getD 41 undef] rfl rfl (by kernel_rfl) (by decide) (all2 ⟨(by decide : (3 : Nat) ≠ 4), (by decide : (3 : Nat) ≠ 6)⟩ ⟨(by decide : (3 : Nat) ≠ 5), (by decide : (3 : Nat) ≠ 7)⟩) (all2 (by decide : (some 42 : Option Tmp) ≠ some 9) (by decide : (some 42 : Option Tmp) ≠ some 10)) hS ?_
          rw [h0]
          exact (HMB.out w' hS.old).mono (by rintro x u ⟨v, rfl, ⟨y1, y2, y3, y4, y5, y6, y7, rfl, k1⟩, k2⟩; exact ⟨_, rfl, k2, ⟨_, _, _, _, _, _, rfl, ⟨_, _, _, _, _, _, _, rfl, k1⟩⟩⟩)
        · obtain rfl := Option.some.inj hi
          exact am_alloc K ⟨4, 6, 9, 59, z9, (fun C w => EnOf W e4 w (.agg C) a)⟩ (List.mem_cons_self) rfl rfl (al59_run rfl) rfl hfi rfl (by rw [inv.size]; exact (by decide : 9 < 94)) hS ⟨_, rfl⟩
        · obtain rfl := Option.some.inj hi
          exact am_alloc K ⟨5, 7, 10, 59, z9, (fun C w => EnOf W e4 w (.agg C) b)⟩ (List.mem_cons_of_mem _ List.mem_cons_self) rfl rfl (al59_run rfl) rfl hfi rfl (by rw [inv.size]; exact (by decide : 10 < 94)) hS ⟨_, rfl⟩
        · obtain rfl := Option.some.inj hi
          obtain ⟨np0, nc0, vp0, vc0, wq0, wc0, e0, f0⟩ := pre_of hpre 1 40 (by kernel_rfl) (by kernel_rfl)
          exact am_set K ⟨4, 6, 9, 59, z9, (fun C w => EnOf W e4 w (.agg C) a)⟩ (List.mem_cons_self) (EnV a np0 nc0 vp0 vc0 wq0 wc0) 40 rfl rfl rfl e0 (by kernel_rfl) rfl (by simp [EnV, Value.oneCell']) rfl hfi (been_of hfw 4 (by kernel_rfl)) rfl hS (fun w2 hk2 => ⟨f0.kx hk2 (by decide), rfl⟩)
        · obtain rfl := Option.some.inj hi
          obtain ⟨np0, nc0, vp0, vc0, wq0, wc0, e0, f0⟩ := pre_of hpre 3 42 (by kernel_rfl) (by kernel_rfl)
          exact am_set K ⟨5, 7, 10, 59, z9, (fun C w => EnOf W e4 w (.agg C) b)⟩ (List.mem_cons_of_mem _ List.mem_cons_self) (EnV b np0 nc0 vp0 vc0 wq0 wc0) 42 rfl rfl rfl e0 (by kernel_rfl) rfl (by simp [EnV, Value.oneCell']) rfl hfi (been_of hfw 5 (by kernel_rfl)) rfl hS (fun w2 hk2 => ⟨f0.kx hk2 (by decide), rfl⟩)
      intro a' w5 f inv hS hall hd
      obtain ⟨b9, C9, p9, lo9, hi9, row9, cp9⟩ := hS.at ⟨4, 6, 9, 59, z9, (fun C w => EnOf W e4 w (.agg C) a)⟩ (List.mem_cons_self) (hall 4 (by decide)) (hall 6 (by decide))
      obtain ⟨b10, C10, p10, lo10, hi10, row10, cp10⟩ := hS.at ⟨5, 7, 10, 59, z9, (fun C w => EnOf W e4 w (.agg C) b)⟩ (List.mem_cons_of_mem _ List.mem_cons_self) (hall 5 (by decide)) (hall 7 (by decide))
      have hold : S7.Only [] w4 w5 := hS.old
      have hgrow : Kx ([some 59] ++ TU) e4 w4 w5 := inv.grow
      have hdf : a'.defers = [] := inv.defers
      have e := frame_of [9, 10, 39, 40, 41, 42] inv.size (fun t ht => inv.old t (dstsIn_spec (ts := [9, 10, 39, 40, 41, 42]) (by kernel_rfl) t ht))
      clear inv hd hall hS K hd0
      obtain ⟨tmps, defers⟩ := a'
      obtain rfl : defers = [] := hdf
      replace e : tmps = List.foldl (fun G t => G.setIfInBounds t (tmps.getD t undef)) _ [9, 10, 39, 40, 41, 42] := e
      simp only [List.foldl_cons, List.foldl_nil] at e
      replace p9 : tmps.getD 9 undef = .pointer (some ⟨b9, 0, none⟩) := p9
      replace p10 : tmps.getD 10 undef = .pointer (some ⟨b10, 0, none⟩) := p10
      generalize tmps.getD 9 undef = x9 at *
      generalize tmps.getD 10 undef = x10 at *
      generalize tmps.getD 39 undef = x39 at *
      generalize tmps.getD 40 undef = x40 at *
      generalize tmps.getD 41 undef = x41 at *
      generalize tmps.getD 42 undef = x42 at *
      simp only [List.setIfInBounds_toArray, List.set_cons_succ, List.set_cons_zero] at e
      subst e
      subst p9
      subst p10
      have H5 := hid (H4.out.only hold hgrow.low (by simp) (by simp) (by simp))
      have hcp9 : EnOf W e4 w5 (.agg C9) a := cp9
      have hcp10 : EnOf W e4 w5 (.agg C10) b := cp10
      have HC9 : Hid (C9.size = 9) := by
        obtain ⟨_, _, _, _, _, _, _, e9, _⟩ := hcp9
        rw [Value.agg.inj e9]
        exact (rfl : _ = _)
      have HC10 : Hid (C10.size = 9) := by
        obtain ⟨_, _, _, _, _, _, _, e9, _⟩ := hcp10
        rw [Value.agg.inj e9]
        exact (rfl : _ = _)
      have ROW9 : Hid (w5.heap[b9]? = some (.cells C9 59 (0, 0))) := row9
      have ROW10 : Hid (w5.heap[b10]? = some (.cells C10 59 (0, 0))) := row10
      have HMK : Hid (∀ (C : Array Value) (d : En) w, EnOf W e4 w5 (.agg C) d → S7.Only [] w5 w → Kx ([] ++ TU) e4 w5 w → EnIs w (.agg C) d) := fun C d w h ho hk => (h.kx hk (by decide)).is (HW0.out w (H5.out.bel.trans hk.low))
      have HEA := hid (HMK.out C9 a · hcp9)
      have HEB := hid (HMK.out C10 b · hcp10)
      clear HMA HMB H4 cp9 cp10 row9 row10 hold hgrow lo9 hi9 lo10 hi10 hcp9 hcp10 hn HMK
      obtain ⟨ra, HRRA⟩ : ∃ ra, Hid (right a = ra) := ⟨_, rfl⟩
      obtain ⟨rb, HRRB⟩ : ∃ rb, Hid (right b = rb) := ⟨_, rfl⟩
      have HRA : Hid (∀ w, S7.Only [] w5 w → Kx ([] ++ TU) e4 w5 w → Calls Tryz.prog 34 #[.agg C9] w fun e w' => e = .returned (.bool ra) ∧ Below w.heap.size w w') := fun w h1 h2 => by
        rw [← HRRA.out]
        exact rRight_any a _ w (HEA.out w h1 h2)
      have HRB : Hid (∀ w, S7.Only [] w5 w → Kx ([] ++ TU) e4 w5 w → Calls Tryz.prog 34 #[.agg C10] w fun e w' => e = .returned (.bool rb) ∧ Below w.heap.size w w') := fun w h1 h2 => by
        rw [← HRRB.out]
        exact rRight_any b _ w (HEB.out w h1 h2)
      cases ra with
      | false =>
        go_upto_region 6 with fail
        have K : Amk [] (fun _ _ => True) e4 TU [] [] w5 := ⟨H5.out.low, all0, all0, all0, all0, fun _ _ _ _ _ => trivial⟩
        have hd0 := S7.below_drewN 1 w5 w5.heap.size
        refine wp_region_sa (rg6f C9) (fun u u' => Kx ([] ++ TU) e4 u u') (Am [] [] (fun _ _ => True) w5 []) (by kernel_rfl) (Kx.of_below hd0 K.low) (fun _ _ _ h k => h.trans k) (rg6f_kept C9) (by kernel_rfl) (Am.start (S7.Only.of_below hd0 _) (trivial)) ?_ ?_
        · intro i o a' w' f hi inv hS hfi hfw hpre
          have hlt : i < 21 := (Array.getElem?_eq_some_iff.1 hi).1
          obtain rfl|rfl|rfl|rfl|rfl|rfl|rfl|rfl|rfl|rfl|rfl|rfl|rfl|rfl|rfl|rfl|rfl|rfl|rfl|rfl|rfl : i = 0 ∨ i = 1 ∨ i = 2 ∨ i = 3 ∨ i = 4 ∨ i = 5 ∨ i = 6 ∨ i = 7 ∨ i = 8 ∨ i = 9 ∨ i = 10 ∨ i = 11 ∨ i = 12 ∨ i = 13 ∨ i = 14 ∨ i = 15 ∨ i = 16 ∨ i = 17 ∨ i = 18 ∨ i = 19 ∨ i = 20 := by omega
          · obtain rfl := Option.some.inj hi
            have h0 : a'.tmps.getD 9 undef = (.pointer (some ⟨b9, 0, none⟩)) := by rw [inv.old 9 (notDst_spec (by kernel_rfl))]; rfl
            exact am_value K _ rfl rfl (load_run 59 9 b9 (0) _ rfl h0 (ld59r ⟨row_old hS.old (by simp) ROW9.out, HC9.out⟩)) (by decide) all0 all0 hS rfl
          · obtain rfl := Option.some.inj hi
            have h0 : a'.tmps.getD 43 undef = (.agg C9) := pre_of hpre 0 43 (by kernel_rfl) (by kernel_rfl)
            refine am_quiet K 34 #[a'.tmps.getD 43 undef] rfl rfl (by kernel_rfl) (by decide) all0 all0 hS ?_
            rw [h0]
            exact (HRA.out w' hS.old inv.grow).mono (by rintro x u ⟨rfl, k1⟩; exact ⟨_, rfl, k1, rfl⟩)
          · obtain rfl := Option.some.inj hi
            have h0 : a'.tmps.getD 44 undef = (.bool false) := pre_of hpre 1 44 (by kernel_rfl) (by kernel_rfl)
            exact am_value K _ rfl rfl (not_run 44 _ rfl h0) (by decide) all0 all0 hS rfl
          · obtain rfl := Option.some.inj hi
            have h0 := pre_of hpre 2 45 (by kernel_rfl) (by kernel_rfl)
            exact am_value K _ rfl rfl (rfl) (by decide) all0 all0 hS h0
          · obtain rfl := Option.some.inj hi
            have hgu : a'.tmps.getD 46 undef = _ := pre_of hpre 3 46 (by kernel_rfl) (by kernel_rfl)
            exact am_skip K rfl (unwanted_of 3 46 true rfl (by kernel_rfl) hgu) (by decide) all0 all0 hS rfl
          · obtain rfl := Option.some.inj hi
            have hgu : a'.tmps.getD 46 undef = _ := pre_of hpre 3 46 (by kernel_rfl) (by kernel_rfl)
            exact am_skip K rfl (unwanted_of 3 46 true rfl (by kernel_rfl) hgu) (by decide) all0 all0 hS rfl
          · obtain rfl := Option.some.inj hi
            have hgu : a'.tmps.getD 46 undef = _ := pre_of hpre 3 46 (by kernel_rfl) (by kernel_rfl)
            exact am_skip K rfl (unwanted_of 3 46 true rfl (by kernel_rfl) hgu) (by decide) all0 all0 hS rfl
          · obtain rfl := Option.some.inj hi
            have h0 : a'.tmps.getD 46 undef = (.bool true) := pre_of hpre 3 46 (by kernel_rfl) (by kernel_rfl)
            exact am_value K _ rfl rfl (pick_run 46 true _ _ _ _ rfl h0 rfl rfl) (by decide) all0 all0 hS rfl
          · obtain rfl := Option.some.inj hi
            have h0 := pre_of hpre 7 50 (by kernel_rfl) (by kernel_rfl)
            exact am_value K _ rfl rfl (rfl) (by decide) all0 all0 hS h0
          · obtain rfl := Option.some.inj hi
            have hgu : a'.tmps.getD 51 undef = _ := pre_of hpre 8 51 (by kernel_rfl) (by kernel_rfl)
            exact am_skip K rfl (unwanted_of 8 51 true rfl (by kernel_rfl) hgu) (by decide) all0 all0 hS rfl
          · obtain rfl := Option.some.inj hi
            have hgu : a'.tmps.getD 51 undef = _ := pre_of hpre 8 51 (by kernel_rfl) (by kernel_rfl)
            exact am_skip K rfl (unwanted_of 8 51 true rfl (by kernel_rfl) hgu) (by decide) all0 all0 hS rfl
          · obtain rfl := Option.some.inj hi
            have hgu : a'.tmps.getD 51 undef = _ := pre_of hpre 8 51 (by kernel_rfl) (by kernel_rfl)
            exact am_skip K rfl (unwanted_of 8 51 true rfl (by kernel_rfl) hgu) (by decide) all0 all0 hS rfl
          · obtain rfl := Option.some.inj hi
            have hgu : a'.tmps.getD 51 undef = _ := pre_of hpre 8 51 (by kernel_rfl) (by kernel_rfl)
            exact am_skip K rfl (unwanted_of 8 51 true rfl (by kernel_rfl) hgu) (by decide) all0 all0 hS rfl
          · obtain rfl := Option.some.inj hi
            have hgu : a'.tmps.getD 51 undef = _ := pre_of hpre 8 51 (by kernel_rfl) (by kernel_rfl)
            exact am_skip K rfl (unwanted_of 8 51 true rfl (by kernel_rfl) hgu) (by decide) all0 all0 hS rfl
          · obtain rfl := Option.some.inj hi
            have hgu : a'.tmps.getD 51 undef = _ := pre_of hpre 8 51 (by kernel_rfl) (by kernel_rfl)
            exact am_skip K rfl (unwanted_of 8 51 true rfl (by kernel_rfl) hgu) (by decide) all0 all0 hS rfl
          · obtain rfl := Option.some.inj hi
            have hgu : a'.tmps.getD 51 undef = _ := pre_of hpre 8 51 (by kernel_rfl) (by kernel_rfl)
            exact am_skip K rfl (unwanted_of 8 51 true rfl (by kernel_rfl) hgu) (by decide) all0 all0 hS rfl
          · obtain rfl := Option.some.inj hi
            have hgu : a'.tmps.getD 51 undef = _ := pre_of hpre 8 51 (by kernel_rfl) (by kernel_rfl)
            exact am_skip K rfl (unwanted_of 8 51 true rfl (by kernel_rfl) hgu) (by decide) all0 all0 hS rfl
          · obtain rfl := Option.some.inj hi
            have hgu : a'.tmps.getD 51 undef = _ := pre_of hpre 8 51 (by kernel_rfl) (by kernel_rfl)
            exact am_skip K rfl (unwanted_of 8 51 true rfl (by kernel_rfl) hgu) (by decide) all0 all0 hS rfl
          · obtain rfl := Option.some.inj hi
            have hgu : a'.tmps.getD 51 undef = _ := pre_of hpre 8 51 (by kernel_rfl) (by kernel_rfl)
            exact am_skip K rfl (unwanted_of 8 51 true rfl (by kernel_rfl) hgu) (by decide) all0 all0 hS rfl
          · obtain rfl := Option.some.inj hi
            have hgu : a'.tmps.getD 51 undef = _ := pre_of hpre 8 51 (by kernel_rfl) (by kernel_rfl)
            exact am_skip K rfl (unwanted_of 8 51 true rfl (by kernel_rfl) hgu) (by decide) all0 all0 hS rfl
          · obtain rfl := Option.some.inj hi
            have h0 : a'.tmps.getD 51 undef = (.bool true) := pre_of hpre 8 51 (by kernel_rfl) (by kernel_rfl)
            exact am_value K _ rfl rfl (pick_run 51 true _ _ _ _ rfl h0 rfl rfl) (by decide) all0 all0 hS rfl
        intro a' w6 f inv hS hall hd
        have hk20 := hd 20 63 (by kernel_rfl)
        have hold : S7.Only [] w5 w6 := hS.old
        have hgrow : Kx ([] ++ TU) e4 w5 w6 := inv.grow
        have hdf : a'.defers = [] := inv.defers
        have e := frame_of [43, 44, 45, 46, 47, 48, 49, 50, 51, 52, 53, 54, 55, 56, 57, 58, 59, 60, 61, 62, 63] inv.size (fun t ht => inv.old t (dstsIn_spec (ts := [43, 44, 45, 46, 47, 48, 49, 50, 51, 52, 53, 54, 55, 56, 57, 58, 59, 60, 61, 62, 63]) (by kernel_rfl) t ht))
        clear inv hd hall hS K hd0
        obtain ⟨tmps, defers⟩ := a'
        obtain rfl : defers = [] := hdf
        replace e : tmps = List.foldl (fun G t => G.setIfInBounds t (tmps.getD t undef)) _ [43, 44, 45, 46, 47, 48, 49, 50, 51, 52, 53, 54, 55, 56, 57, 58, 59, 60, 61, 62, 63] := e
        simp only [List.foldl_cons, List.foldl_nil] at e
        replace hk20 : tmps.getD 63 undef = (.bool true) := hk20
        generalize tmps.getD 43 undef = x43 at *
        generalize tmps.getD 44 undef = x44 at *
        generalize tmps.getD 45 undef = x45 at *
        generalize tmps.getD 46 undef = x46 at *
        generalize tmps.getD 47 undef = x47 at *
        generalize tmps.getD 48 undef = x48 at *
        generalize tmps.getD 49 undef = x49 at *
        generalize tmps.getD 50 undef = x50 at *
        generalize tmps.getD 51 undef = x51 at *
        generalize tmps.getD 52 undef = x52 at *
        generalize tmps.getD 53 undef = x53 at *
        generalize tmps.getD 54 undef = x54 at *
        generalize tmps.getD 55 undef = x55 at *
        generalize tmps.getD 56 undef = x56 at *
        generalize tmps.getD 57 undef = x57 at *
        generalize tmps.getD 58 undef = x58 at *
        generalize tmps.getD 59 undef = x59 at *
        generalize tmps.getD 60 undef = x60 at *
        generalize tmps.getD 61 undef = x61 at *
        generalize tmps.getD 62 undef = x62 at *
        generalize tmps.getD 63 undef = x63 at *
        simp only [List.setIfInBounds_toArray, List.set_cons_succ, List.set_cons_zero] at e
        subst e
        subst hk20
        have H6 := hid (H5.out.only hold hgrow.low (by simp) (by simp) (by simp))
        clear hold hgrow
        go_wp2_with fail
        go_ret
        exact ⟨rfl, HW0.out _ H6.out.bel⟩
      | true =>
        cases rb with
        | false =>
          go_upto_region 6 with fail
          have K : Amk [] (fun _ _ => True) e4 TU [] [] w5 := ⟨H5.out.low, all0, all0, all0, all0, fun _ _ _ _ _ => trivial⟩
          have hd0 := S7.below_drewN 1 w5 w5.heap.size
          refine wp_region_sa (rg6g C9 C10) (fun u u' => Kx ([] ++ TU) e4 u u') (Am [] [] (fun _ _ => True) w5 []) (by kernel_rfl) (Kx.of_below hd0 K.low) (fun _ _ _ h k => h.trans k) (rg6g_kept C9 C10) (by kernel_rfl) (Am.start (S7.Only.of_below hd0 _) (trivial)) ?_ ?_
          · intro i o a' w' f hi inv hS hfi hfw hpre
            have hlt : i < 21 := (Array.getElem?_eq_some_iff.1 hi).1
            obtain rfl|rfl|rfl|rfl|rfl|rfl|rfl|rfl|rfl|rfl|rfl|rfl|rfl|rfl|rfl|rfl|rfl|rfl|rfl|rfl|rfl : i = 0 ∨ i = 1 ∨ i = 2 ∨ i = 3 ∨ i = 4 ∨ i = 5 ∨ i = 6 ∨ i = 7 ∨ i = 8 ∨ i = 9 ∨ i = 10 ∨ i = 11 ∨ i = 12 ∨ i = 13 ∨ i = 14 ∨ i = 15 ∨ i = 16 ∨ i = 17 ∨ i = 18 ∨ i = 19 ∨ i = 20 := by omega
            · obtain rfl := Option.some.inj hi
              have h0 : a'.tmps.getD 9 undef = (.pointer (some ⟨b9, 0, none⟩)) := by rw [inv.old 9 (notDst_spec (by kernel_rfl))]; rfl
              exact am_value K _ rfl rfl (load_run 59 9 b9 (0) _ rfl h0 (ld59r ⟨row_old hS.old (by simp) ROW9.out, HC9.out⟩)) (by decide) all0 all0 hS rfl
            · obtain rfl := Option.some.inj hi
              have h0 : a'.tmps.getD 43 undef = (.agg C9) := pre_of hpre 0 43 (by kernel_rfl) (by kernel_rfl)
              refine am_quiet K 34 #[a'.tmps.getD 43 undef] rfl rfl (by kernel_rfl) (by decide) all0 all0 hS ?_
              rw [h0]
              exact (HRA.out w' hS.old inv.grow).mono (by rintro x u ⟨rfl, k1⟩; exact ⟨_, rfl, k1, rfl⟩)
            · obtain rfl := Option.some.inj hi
              have h0 : a'.tmps.getD 44 undef = (.bool true) := pre_of hpre 1 44 (by kernel_rfl) (by kernel_rfl)
              exact am_value K _ rfl rfl (not_run 44 _ rfl h0) (by decide) all0 all0 hS rfl
            · obtain rfl := Option.some.inj hi
              have h0 := pre_of hpre 2 45 (by kernel_rfl) (by kernel_rfl)
              exact am_value K _ rfl rfl (rfl) (by decide) all0 all0 hS h0
            · obtain rfl := Option.some.inj hi
              have hgu : a'.tmps.getD 46 undef = _ := pre_of hpre 3 46 (by kernel_rfl) (by kernel_rfl)
              have h0 : a'.tmps.getD 10 undef = (.pointer (some ⟨b10, 0, none⟩)) := by rw [inv.old 10 (notDst_spec (by kernel_rfl))]; rfl
              exact am_value K _ rfl (wanted_of 3 46 false rfl (by kernel_rfl) hgu) (load_run 59 10 b10 (0) _ rfl h0 (ld59r ⟨row_old hS.old (by simp) ROW10.out, HC10.out⟩)) (by decide) all0 all0 hS rfl
            · obtain rfl := Option.some.inj hi
              have hgu : a'.tmps.getD 46 undef = _ := pre_of hpre 3 46 (by kernel_rfl) (by kernel_rfl)
              have h0 : a'.tmps.getD 47 undef = (.agg C10) := pre_of hpre 4 47 (by kernel_rfl) (by kernel_rfl)
              refine am_quiet K 34 #[a'.tmps.getD 47 undef] rfl (wanted_of 3 46 false rfl (by kernel_rfl) hgu) (by kernel_rfl) (by decide) all0 all0 hS ?_
              rw [h0]
              exact (HRB.out w' hS.old inv.grow).mono (by rintro x u ⟨rfl, k1⟩; exact ⟨_, rfl, k1, rfl⟩)
            · obtain rfl := Option.some.inj hi
              have hgu : a'.tmps.getD 46 undef = _ := pre_of hpre 3 46 (by kernel_rfl) (by kernel_rfl)
              have h0 : a'.tmps.getD 48 undef = (.bool false) := pre_of hpre 5 48 (by kernel_rfl) (by kernel_rfl)
              exact am_value K _ rfl (wanted_of 3 46 false rfl (by kernel_rfl) hgu) (not_run 48 _ rfl h0) (by decide) all0 all0 hS rfl
            · obtain rfl := Option.some.inj hi
              have h0 : a'.tmps.getD 46 undef = (.bool false) := pre_of hpre 3 46 (by kernel_rfl) (by kernel_rfl)
              have h1 : a'.tmps.getD 49 undef = (.bool true) := pre_of hpre 6 49 (by kernel_rfl) (by kernel_rfl)
              exact am_value K _ rfl rfl (pick_run 46 false _ _ _ _ rfl h0 rfl h1) (by decide) all0 all0 hS rfl
            · obtain rfl := Option.some.inj hi
              have h0 := pre_of hpre 7 50 (by kernel_rfl) (by kernel_rfl)
              exact am_value K _ rfl rfl (rfl) (by decide) all0 all0 hS h0
            · obtain rfl := Option.some.inj hi
              have hgu : a'.tmps.getD 51 undef = _ := pre_of hpre 8 51 (by kernel_rfl) (by kernel_rfl)
              exact am_skip K rfl (unwanted_of 8 51 true rfl (by kernel_rfl) hgu) (by decide) all0 all0 hS rfl
            · obtain rfl := Option.some.inj hi
              have hgu : a'.tmps.getD 51 undef = _ := pre_of hpre 8 51 (by kernel_rfl) (by kernel_rfl)
              exact am_skip K rfl (unwanted_of 8 51 true rfl (by kernel_rfl) hgu) (by decide) all0 all0 hS rfl
            · obtain rfl := Option.some.inj hi
              have hgu : a'.tmps.getD 51 undef = _ := pre_of hpre 8 51 (by kernel_rfl) (by kernel_rfl)
              exact am_skip K rfl (unwanted_of 8 51 true rfl (by kernel_rfl) hgu) (by decide) all0 all0 hS rfl
            · obtain rfl := Option.some.inj hi
              have hgu : a'.tmps.getD 51 undef = _ := pre_of hpre 8 51 (by kernel_rfl) (by kernel_rfl)
              exact am_skip K rfl (unwanted_of 8 51 true rfl (by kernel_rfl) hgu) (by decide) all0 all0 hS rfl
            · obtain rfl := Option.some.inj hi
              have hgu : a'.tmps.getD 51 undef = _ := pre_of hpre 8 51 (by kernel_rfl) (by kernel_rfl)
              exact am_skip K rfl (unwanted_of 8 51 true rfl (by kernel_rfl) hgu) (by decide) all0 all0 hS rfl
            · obtain rfl := Option.some.inj hi
              have hgu : a'.tmps.getD 51 undef = _ := pre_of hpre 8 51 (by kernel_rfl) (by kernel_rfl)
              exact am_skip K rfl (unwanted_of 8 51 true rfl (by kernel_rfl) hgu) (by decide) all0 all0 hS rfl
            · obtain rfl := Option.some.inj hi
              have hgu : a'.tmps.getD 51 undef = _ := pre_of hpre 8 51 (by kernel_rfl) (by kernel_rfl)
              exact am_skip K rfl (unwanted_of 8 51 true rfl (by kernel_rfl) hgu) (by decide) all0 all0 hS rfl
            · obtain rfl := Option.some.inj hi
              have hgu : a'.tmps.getD 51 undef = _ := pre_of hpre 8 51 (by kernel_rfl) (by kernel_rfl)
              exact am_skip K rfl (unwanted_of 8 51 true rfl (by kernel_rfl) hgu) (by decide) all0 all0 hS rfl
            · obtain rfl := Option.some.inj hi
              have hgu : a'.tmps.getD 51 undef = _ := pre_of hpre 8 51 (by kernel_rfl) (by kernel_rfl)
              exact am_skip K rfl (unwanted_of 8 51 true rfl (by kernel_rfl) hgu) (by decide) all0 all0 hS rfl
            · obtain rfl := Option.some.inj hi
              have hgu : a'.tmps.getD 51 undef = _ := pre_of hpre 8 51 (by kernel_rfl) (by kernel_rfl)
              exact am_skip K rfl (unwanted_of 8 51 true rfl (by kernel_rfl) hgu) (by decide) all0 all0 hS rfl
            · obtain rfl := Option.some.inj hi
              have hgu : a'.tmps.getD 51 undef = _ := pre_of hpre 8 51 (by kernel_rfl) (by kernel_rfl)
              exact am_skip K rfl (unwanted_of 8 51 true rfl (by kernel_rfl) hgu) (by decide) all0 all0 hS rfl
            · obtain rfl := Option.some.inj hi
              have h0 : a'.tmps.getD 51 undef = (.bool true) := pre_of hpre 8 51 (by kernel_rfl) (by kernel_rfl)
              exact am_value K _ rfl rfl (pick_run 51 true _ _ _ _ rfl h0 rfl rfl) (by decide) all0 all0 hS rfl
          intro a' w6 f inv hS hall hd
          have hk20 := hd 20 63 (by kernel_rfl)
          have hold : S7.Only [] w5 w6 := hS.old
          have hgrow : Kx ([] ++ TU) e4 w5 w6 := inv.grow
          have hdf : a'.defers = [] := inv.defers
          have e := frame_of [43, 44, 45, 46, 47, 48, 49, 50, 51, 52, 53, 54, 55, 56, 57, 58, 59, 60, 61, 62, 63] inv.size (fun t ht => inv.old t (dstsIn_spec (ts := [43, 44, 45, 46, 47, 48, 49, 50, 51, 52, 53, 54, 55, 56, 57, 58, 59, 60, 61, 62, 63]) (by kernel_rfl) t ht))
          clear inv hd hall hS K hd0
          obtain ⟨tmps, defers⟩ := a'
          obtain rfl : defers = [] := hdf
          replace e : tmps = List.foldl (fun G t => G.setIfInBounds t (tmps.getD t undef)) _ [43, 44, 45, 46, 47, 48, 49, 50, 51, 52, 53, 54, 55, 56, 57, 58, 59, 60, 61, 62, 63] := e
          simp only [List.foldl_cons, List.foldl_nil] at e
          replace hk20 : tmps.getD 63 undef = (.bool true) := hk20
          generalize tmps.getD 43 undef = x43 at *
          generalize tmps.getD 44 undef = x44 at *
          generalize tmps.getD 45 undef = x45 at *
          generalize tmps.getD 46 undef = x46 at *
          generalize tmps.getD 47 undef = x47 at *
          generalize tmps.getD 48 undef = x48 at *
          generalize tmps.getD 49 undef = x49 at *
          generalize tmps.getD 50 undef = x50 at *
          generalize tmps.getD 51 undef = x51 at *
          generalize tmps.getD 52 undef = x52 at *
          generalize tmps.getD 53 undef = x53 at *
          generalize tmps.getD 54 undef = x54 at *
          generalize tmps.getD 55 undef = x55 at *
          generalize tmps.getD 56 undef = x56 at *
          generalize tmps.getD 57 undef = x57 at *
          generalize tmps.getD 58 undef = x58 at *
          generalize tmps.getD 59 undef = x59 at *
          generalize tmps.getD 60 undef = x60 at *
          generalize tmps.getD 61 undef = x61 at *
          generalize tmps.getD 62 undef = x62 at *
          generalize tmps.getD 63 undef = x63 at *
          simp only [List.setIfInBounds_toArray, List.set_cons_succ, List.set_cons_zero] at e
          subst e
          subst hk20
          have H6 := hid (H5.out.only hold hgrow.low (by simp) (by simp) (by simp))
          clear hold hgrow
          go_wp2_with fail
          go_ret
          exact ⟨rfl, HW0.out _ H6.out.bel⟩
        | true =>
          have HYA : Hid (∀ w, S7.Only [] w5 w → Kx ([] ++ TU) e4 w5 w → Calls Tryz.prog 36 #[.agg C9] w fun e w' => ∃ q c, e = .returned (.slice q (E9.bytes a).length c) ∧ Below w.heap.size w w') := fun w h1 h2 => (rBytes_any a _ w (HEA.out w h1 h2) HRRA.out).mono (by
            rintro e w' ⟨v, rfl, k1, k2⟩
            obtain ⟨q, c, rfl, _⟩ := k1.slice
            exact ⟨q, c, rfl, k2⟩)
          have HYB : Hid (∀ w, S7.Only [] w5 w → Kx ([] ++ TU) e4 w5 w → Calls Tryz.prog 36 #[.agg C10] w fun e w' => ∃ q c, e = .returned (.slice q (E9.bytes b).length c) ∧ Below w.heap.size w w') := fun w h1 h2 => (rBytes_any b _ w (HEB.out w h1 h2) HRRB.out).mono (by
            rintro e w' ⟨v, rfl, k1, k2⟩
            obtain ⟨q, c, rfl, _⟩ := k1.slice
            exact ⟨q, c, rfl, k2⟩)
          have HLa : Hid ((E9.bytes a).length + 36 ≤ 1000000) := by have := (bytes_length HRRA.out).1; show _ ≤ _; omega
          have HLb : Hid ((E9.bytes b).length + 36 ≤ 1000000) := by have := (bytes_length HRRB.out).1; show _ ≤ _; omega
          have HSZ : Hid (∀ w (n : Nat), n ≤ 1000000 → Calls Tryz.prog 35 #[.int .i64 (n : Int)] w fun e w' => e = .returned (.int .i64 ((bsz n : Nat) : Int)) ∧ Below w.heap.size w w') := fun w n h => by
            have := RSize_any (n : Int) w (by omega)
            rw [rsz_nat] at this
            exact this
          obtain ⟨nz, HNZ⟩ : ∃ nz, Hid ((!(((bsz ((E9.bytes a).length + 36) : Nat) : Int) == ((bsz ((E9.bytes b).length + 36) : Nat) : Int))) = nz) := ⟨_, rfl⟩
          go_upto_region 6 with fail
          have K : Amk [] (fun _ _ => True) e4 TU [] [] w5 := ⟨H5.out.low, all0, all0, all0, all0, fun _ _ _ _ _ => trivial⟩
          have hd0 := S7.below_drewN 1 w5 w5.heap.size
          refine wp_region_sa (rg6e a b C9 C10 nz) (fun u u' => Kx ([] ++ TU) e4 u u') (Am [] [] (fun _ _ => True) w5 []) (by kernel_rfl) (Kx.of_below hd0 K.low) (fun _ _ _ h k => h.trans k) (rg6e_kept a b C9 C10 nz) (by kernel_rfl) (Am.start (S7.Only.of_below hd0 _) (trivial)) ?_ ?_
          · intro i o a' w' f hi inv hS hfi hfw hpre
            have hlt : i < 21 := (Array.getElem?_eq_some_iff.1 hi).1
            obtain rfl|rfl|rfl|rfl|rfl|rfl|rfl|rfl|rfl|rfl|rfl|rfl|rfl|rfl|rfl|rfl|rfl|rfl|rfl|rfl|rfl : i = 0 ∨ i = 1 ∨ i = 2 ∨ i = 3 ∨ i = 4 ∨ i = 5 ∨ i = 6 ∨ i = 7 ∨ i = 8 ∨ i = 9 ∨ i = 10 ∨ i = 11 ∨ i = 12 ∨ i = 13 ∨ i = 14 ∨ i = 15 ∨ i = 16 ∨ i = 17 ∨ i = 18 ∨ i = 19 ∨ i = 20 := by omega
            · obtain rfl := Option.some.inj hi
              have h0 : a'.tmps.getD 9 undef = (.pointer (some ⟨b9, 0, none⟩)) := by rw [inv.old 9 (notDst_spec (by kernel_rfl))]; rfl
              exact am_value K _ rfl rfl (load_run 59 9 b9 (0) _ rfl h0 (ld59r ⟨row_old hS.old (by simp) ROW9.out, HC9.out⟩)) (by decide) all0 all0 hS rfl
            · obtain rfl := Option.some.inj hi
              have h0 : a'.tmps.getD 43 undef = (.agg C9) := pre_of hpre 0 43 (by kernel_rfl) (by kernel_rfl)
              refine am_quiet K 34 #[a'.tmps.getD 43 undef] rfl rfl (by kernel_rfl) (by decide) all0 all0 hS ?_
              rw [h0]
              exact (HRA.out w' hS.old inv.grow).mono (by rintro x u ⟨rfl, k1⟩; exact ⟨_, rfl, k1, rfl⟩)
            · obtain rfl := Option.some.inj hi
              have h0 : a'.tmps.getD 44 undef = (.bool true) := pre_of hpre 1 44 (by kernel_rfl) (by kernel_rfl)
              exact am_value K _ rfl rfl (not_run 44 _ rfl h0) (by decide) all0 all0 hS rfl
            · obtain rfl := Option.some.inj hi
              have h0 := pre_of hpre 2 45 (by kernel_rfl) (by kernel_rfl)
              exact am_value K _ rfl rfl (rfl) (by decide) all0 all0 hS h0
            · obtain rfl := Option.some.inj hi
              have hgu : a'.tmps.getD 46 undef = _ := pre_of hpre 3 46 (by kernel_rfl) (by kernel_rfl)
              have h0 : a'.tmps.getD 10 undef = (.pointer (some ⟨b10, 0, none⟩)) := by rw [inv.old 10 (notDst_spec (by kernel_rfl))]; rfl
              exact am_value K _ rfl (wanted_of 3 46 false rfl (by kernel_rfl) hgu) (load_run 59 10 b10 (0) _ rfl h0 (ld59r ⟨row_old hS.old (by simp) ROW10.out, HC10.out⟩)) (by decide) all0 all0 hS rfl
            · obtain rfl := Option.some.inj hi
              have hgu : a'.tmps.getD 46 undef = _ := pre_of hpre 3 46 (by kernel_rfl) (by kernel_rfl)
              have h0 : a'.tmps.getD 47 undef = (.agg C10) := pre_of hpre 4 47 (by kernel_rfl) (by kernel_rfl)
              refine am_quiet K 34 #[a'.tmps.getD 47 undef] rfl (wanted_of 3 46 false rfl (by kernel_rfl) hgu) (by kernel_rfl) (by decide) all0 all0 hS ?_
              rw [h0]
              exact (HRB.out w' hS.old inv.grow).mono (by rintro x u ⟨rfl, k1⟩; exact ⟨_, rfl, k1, rfl⟩)
            · obtain rfl := Option.some.inj hi
              have hgu : a'.tmps.getD 46 undef = _ := pre_of hpre 3 46 (by kernel_rfl) (by kernel_rfl)
              have h0 : a'.tmps.getD 48 undef = (.bool true) := pre_of hpre 5 48 (by kernel_rfl) (by kernel_rfl)
              exact am_value K _ rfl (wanted_of 3 46 false rfl (by kernel_rfl) hgu) (not_run 48 _ rfl h0) (by decide) all0 all0 hS rfl
            · obtain rfl := Option.some.inj hi
              have h0 : a'.tmps.getD 46 undef = (.bool false) := pre_of hpre 3 46 (by kernel_rfl) (by kernel_rfl)
              have h1 : a'.tmps.getD 49 undef = (.bool false) := pre_of hpre 6 49 (by kernel_rfl) (by kernel_rfl)
              exact am_value K _ rfl rfl (pick_run 46 false _ _ _ _ rfl h0 rfl h1) (by decide) all0 all0 hS rfl
            · obtain rfl := Option.some.inj hi
              have h0 := pre_of hpre 7 50 (by kernel_rfl) (by kernel_rfl)
              exact am_value K _ rfl rfl (rfl) (by decide) all0 all0 hS h0
            · obtain rfl := Option.some.inj hi
              have hgu : a'.tmps.getD 51 undef = _ := pre_of hpre 8 51 (by kernel_rfl) (by kernel_rfl)
              have h0 : a'.tmps.getD 9 undef = (.pointer (some ⟨b9, 0, none⟩)) := by rw [inv.old 9 (notDst_spec (by kernel_rfl))]; rfl
              exact am_value K _ rfl (wanted_of 8 51 false rfl (by kernel_rfl) hgu) (load_run 59 9 b9 (0) _ rfl h0 (ld59r ⟨row_old hS.old (by simp) ROW9.out, HC9.out⟩)) (by decide) all0 all0 hS rfl
            · obtain rfl := Option.some.inj hi
              have hgu : a'.tmps.getD 51 undef = _ := pre_of hpre 8 51 (by kernel_rfl) (by kernel_rfl)
              have h0 : a'.tmps.getD 52 undef = (.agg C9) := pre_of hpre 9 52 (by kernel_rfl) (by kernel_rfl)
              refine am_quiet K 36 #[a'.tmps.getD 52 undef] rfl (wanted_of 8 51 false rfl (by kernel_rfl) hgu) (by kernel_rfl) (by decide) all0 all0 hS ?_
              rw [h0]
              exact (HYA.out w' hS.old inv.grow).mono (by rintro x u ⟨q, c, rfl, k1⟩; exact ⟨_, rfl, k1, ⟨_, _, rfl⟩⟩)
            · obtain rfl := Option.some.inj hi
              have hgu : a'.tmps.getD 51 undef = _ := pre_of hpre 8 51 (by kernel_rfl) (by kernel_rfl)
              obtain ⟨q0, c0, e0⟩ := pre_of hpre 10 53 (by kernel_rfl) (by kernel_rfl)
              exact am_value K _ rfl (wanted_of 8 51 false rfl (by kernel_rfl) hgu) (lenB_run 53 _ _ _ rfl e0) (by decide) all0 all0 hS rfl
            · obtain rfl := Option.some.inj hi
              have hgu : a'.tmps.getD 51 undef = _ := pre_of hpre 8 51 (by kernel_rfl) (by kernel_rfl)
              have h0 : a'.tmps.getD 54 undef = (.int .i64 ((E9.bytes a).length : Int)) := pre_of hpre 11 54 (by kernel_rfl) (by kernel_rfl)
              exact am_value K _ rfl (wanted_of 8 51 false rfl (by kernel_rfl) hgu) (addK_run 54 _ 36 ((E9.bytes a).length + 36) rfl h0 rfl HLa.out) (by decide) all0 all0 hS rfl
            · obtain rfl := Option.some.inj hi
              have hgu : a'.tmps.getD 51 undef = _ := pre_of hpre 8 51 (by kernel_rfl) (by kernel_rfl)
              have h0 : a'.tmps.getD 55 undef = (.int .i64 ((((E9.bytes a).length + 36 : Nat)) : Int)) := pre_of hpre 12 55 (by kernel_rfl) (by kernel_rfl)
              refine am_quiet K 35 #[a'.tmps.getD 55 undef] rfl (wanted_of 8 51 false rfl (by kernel_rfl) hgu) (by kernel_rfl) (by decide) all0 all0 hS ?_
              rw [h0]
              exact (HSZ.out w' ((E9.bytes a).length + 36) HLa.out).mono (by rintro x u ⟨rfl, k1⟩; exact ⟨_, rfl, k1, rfl⟩)
            · obtain rfl := Option.some.inj hi
              have hgu : a'.tmps.getD 51 undef = _ := pre_of hpre 8 51 (by kernel_rfl) (by kernel_rfl)
              have h0 : a'.tmps.getD 10 undef = (.pointer (some ⟨b10, 0, none⟩)) := by rw [inv.old 10 (notDst_spec (by kernel_rfl))]; rfl
              exact am_value K _ rfl (wanted_of 8 51 false rfl (by kernel_rfl) hgu) (load_run 59 10 b10 (0) _ rfl h0 (ld59r ⟨row_old hS.old (by simp) ROW10.out, HC10.out⟩)) (by decide) all0 all0 hS rfl
            · obtain rfl := Option.some.inj hi
              have hgu : a'.tmps.getD 51 undef = _ := pre_of hpre 8 51 (by kernel_rfl) (by kernel_rfl)
              have h0 : a'.tmps.getD 57 undef = (.agg C10) := pre_of hpre 14 57 (by kernel_rfl) (by kernel_rfl)
              refine am_quiet K 36 #[a'.tmps.getD 57 undef] rfl (wanted_of 8 51 false rfl (by kernel_rfl) hgu) (by kernel_rfl) (by decide) all0 all0 hS ?_
              rw [h0]
              exact (HYB.out w' hS.old inv.grow).mono (by rintro x u ⟨q, c, rfl, k1⟩; exact ⟨_, rfl, k1, ⟨_, _, rfl⟩⟩)
            · obtain rfl := Option.some.inj hi
              have hgu : a'.tmps.getD 51 undef = _ := pre_of hpre 8 51 (by kernel_rfl) (by kernel_rfl)
              obtain ⟨q0, c0, e0⟩ := pre_of hpre 15 58 (by kernel_rfl) (by kernel_rfl)
              exact am_value K _ rfl (wanted_of 8 51 false rfl (by kernel_rfl) hgu) (lenB_run 58 _ _ _ rfl e0) (by decide) all0 all0 hS rfl
            · obtain rfl := Option.some.inj hi
              have hgu : a'.tmps.getD 51 undef = _ := pre_of hpre 8 51 (by kernel_rfl) (by kernel_rfl)
              have h0 : a'.tmps.getD 59 undef = (.int .i64 ((E9.bytes b).length : Int)) := pre_of hpre 16 59 (by kernel_rfl) (by kernel_rfl)
              exact am_value K _ rfl (wanted_of 8 51 false rfl (by kernel_rfl) hgu) (addK_run 59 _ 36 ((E9.bytes b).length + 36) rfl h0 rfl HLb.out) (by decide) all0 all0 hS rfl
            · obtain rfl := Option.some.inj hi
              have hgu : a'.tmps.getD 51 undef = _ := pre_of hpre 8 51 (by kernel_rfl) (by kernel_rfl)
              have h0 : a'.tmps.getD 60 undef = (.int .i64 ((((E9.bytes b).length + 36 : Nat)) : Int)) := pre_of hpre 17 60 (by kernel_rfl) (by kernel_rfl)
              refine am_quiet K 35 #[a'.tmps.getD 60 undef] rfl (wanted_of 8 51 false rfl (by kernel_rfl) hgu) (by kernel_rfl) (by decide) all0 all0 hS ?_
              rw [h0]
              exact (HSZ.out w' ((E9.bytes b).length + 36) HLb.out).mono (by rintro x u ⟨rfl, k1⟩; exact ⟨_, rfl, k1, rfl⟩)
            · obtain rfl := Option.some.inj hi
              have hgu : a'.tmps.getD 51 undef = _ := pre_of hpre 8 51 (by kernel_rfl) (by kernel_rfl)
              have h0 : a'.tmps.getD 56 undef = (.int .i64 (bsz ((E9.bytes a).length + 36) : Nat)) := pre_of hpre 13 56 (by kernel_rfl) (by kernel_rfl)
              have h1 : a'.tmps.getD 61 undef = (.int .i64 (bsz ((E9.bytes b).length + 36) : Nat)) := pre_of hpre 18 61 (by kernel_rfl) (by kernel_rfl)
              exact am_value K _ rfl (wanted_of 8 51 false rfl (by kernel_rfl) hgu) (neqN_run 56 61 _ _ rfl h0 h1) (by decide) all0 all0 hS (by show Value.bool _ = _; rw [HNZ.out])
            · obtain rfl := Option.some.inj hi
              have h0 : a'.tmps.getD 51 undef = (.bool false) := pre_of hpre 8 51 (by kernel_rfl) (by kernel_rfl)
              have h1 : a'.tmps.getD 62 undef = (.bool nz) := pre_of hpre 19 62 (by kernel_rfl) (by kernel_rfl)
              exact am_value K _ rfl rfl (pick_run 51 false _ _ _ _ rfl h0 rfl h1) (by decide) all0 all0 hS rfl
          intro a' w6 f inv hS hall hd
          have hk20 := hd 20 63 (by kernel_rfl)
          have hold : S7.Only [] w5 w6 := hS.old
          have hgrow : Kx ([] ++ TU) e4 w5 w6 := inv.grow
          have hdf : a'.defers = [] := inv.defers
          have e := frame_of [43, 44, 45, 46, 47, 48, 49, 50, 51, 52, 53, 54, 55, 56, 57, 58, 59, 60, 61, 62, 63] inv.size (fun t ht => inv.old t (dstsIn_spec (ts := [43, 44, 45, 46, 47, 48, 49, 50, 51, 52, 53, 54, 55, 56, 57, 58, 59, 60, 61, 62, 63]) (by kernel_rfl) t ht))
          clear inv hd hall hS K hd0
          obtain ⟨tmps, defers⟩ := a'
          obtain rfl : defers = [] := hdf
          replace e : tmps = List.foldl (fun G t => G.setIfInBounds t (tmps.getD t undef)) _ [43, 44, 45, 46, 47, 48, 49, 50, 51, 52, 53, 54, 55, 56, 57, 58, 59, 60, 61, 62, 63] := e
          simp only [List.foldl_cons, List.foldl_nil] at e
          replace hk20 : tmps.getD 63 undef = (.bool nz) := hk20
          generalize tmps.getD 43 undef = x43 at *
          generalize tmps.getD 44 undef = x44 at *
          generalize tmps.getD 45 undef = x45 at *
          generalize tmps.getD 46 undef = x46 at *
          generalize tmps.getD 47 undef = x47 at *
          generalize tmps.getD 48 undef = x48 at *
          generalize tmps.getD 49 undef = x49 at *
          generalize tmps.getD 50 undef = x50 at *
          generalize tmps.getD 51 undef = x51 at *
          generalize tmps.getD 52 undef = x52 at *
          generalize tmps.getD 53 undef = x53 at *
          generalize tmps.getD 54 undef = x54 at *
          generalize tmps.getD 55 undef = x55 at *
          generalize tmps.getD 56 undef = x56 at *
          generalize tmps.getD 57 undef = x57 at *
          generalize tmps.getD 58 undef = x58 at *
          generalize tmps.getD 59 undef = x59 at *
          generalize tmps.getD 60 undef = x60 at *
          generalize tmps.getD 61 undef = x61 at *
          generalize tmps.getD 62 undef = x62 at *
          generalize tmps.getD 63 undef = x63 at *
          simp only [List.setIfInBounds_toArray, List.set_cons_succ, List.set_cons_zero] at e
          subst e
          subst hk20
          have H6 := hid (H5.out.only hold hgrow.low (by simp) (by simp) (by simp))
          clear hold hgrow
          cases nz with
          | true =>
            go_wp2_with fail
            go_ret
            exact ⟨rfl, HW0.out _ H6.out.bel⟩
          | false =>
            go_wp2_with fail
            refine (S7.Signs_sw (B := w6.heap.size) (Nat.le_refl _)).mono ?_
            rintro e w7 ⟨p, q, m, x, rfl, s1, s2⟩
            have s3 := s1.su.lt
            have H7 := hid (H6.out.below s2)
            have HN7 : Hid (w6.heap.size ≤ p ∧ w6.heap.size ≤ q ∧ w6.heap.size ≤ m ∧ w6.heap.size ≤ x ∧ p < w7.heap.size ∧ q < w7.heap.size ∧ m < w7.heap.size ∧ x < w7.heap.size) := ⟨s1.lo.1, s1.lo.2.1, s1.lo.2.2.1, s1.lo.2.2.2, s3.1, s3.2.1, s3.2.2.1, s3.2.2.2⟩
            have HS7 : Hid (S7.SuIs w7 p q m x []) := s1.su
            clear s1 s2 s3
            go_wp2_with fail
            refine (S7.Signs_sw (B := w7.heap.size) (Nat.le_refl _)).mono ?_
            rintro e w8 ⟨p2, q2, m2, x2, rfl, s1, s2⟩
            have H8 := hid (H7.out.below s2)
            have HLE : Hid (e4 ≤ w6.heap.size) := H6.out.low
            have l4 := (Array.getElem?_eq_some_iff.1 H6.out.ra).1
            have l5 := (Array.getElem?_eq_some_iff.1 H6.out.rb).1
            have l7 := (Array.getElem?_eq_some_iff.1 H6.out.rc).1
            have HNI : Hid (e7 ∉ [p, m, x] ∧ e4 ∉ [p, m, x]) := by
              have := HN7.out
              constructor <;> simp <;> omega
            have HNI5 : Hid (e5 ∉ [p, m, x]) := by
              have := HN7.out
              show e5 ∉ _
              simp
              omega
            have lo2 := s1.lo
            have HNJ : Hid (e7 ∉ [p2, m2, x2] ∧ e5 ∉ [p2, m2, x2]) := by
              have := H7.out.low
              have := HN7.out
              constructor <;> simp <;> omega
            have HNJ4 : Hid (e4 ∉ [p2, m2, x2]) := by
              have := HN7.out
              show e4 ∉ _
              simp
              omega
            have HSW : Hid (Sw e4 w8 p q m x []) := ⟨HS7.out.below s2, by have := HN7.out; have := HLE.out; omega⟩
            have HST2 : Hid (∀ w, S7.Only [p, m, x] w8 w → Sw e4 w p2 q2 m2 x2 []) := fun w h => ⟨s1.su.only h (by have := HN7.out; refine ⟨?_, ?_, ?_, ?_⟩ <;> simp <;> omega), by have := HN7.out; have := HLE.out; omega⟩
            have HLT2 : Hid (p2 < w8.heap.size ∧ m2 < w8.heap.size ∧ x2 < w8.heap.size) := ⟨s1.su.lt.1, s1.su.lt.2.2.1, s1.su.lt.2.2.2⟩
            clear s1 s2 H6 H7 HN7 HS7 l4 l5 l7 lo2 HLE HRA HRB HYA HYB HEA HEB H5 HC9 HC10 ROW9 ROW10 HSZ
            obtain ⟨h1, h2⟩ := hides_same k r HRRA.out HRRB.out (HWA.out.trans HWB.out.symm) (by have := HNZ.out; simp at this; omega)
            obtain ⟨RA, HSR⟩ : ∃ RA, Hid (sres aL0 k r a 32 = RA) := ⟨_, rfl⟩
            obtain ⟨xe, HSE⟩ : ∃ xe, Hid (serr r a 32 = xe) := ⟨_, rfl⟩
            have HSR2 : Hid (sres aL0 k r b 32 = RA) := by show _ = _; rw [← h2]; exact HSR.out
            have HSE2 : Hid (serr r b 32 = xe) := by show _ = _; rw [← h1]; exact HSE.out
            clear h1 h2 HNZ HLa HLb HRRA HRRB HWA HWB
            have k32 : aK.length = 32 := S7.Su.sign_length _ _
            have HSLA : Hid (∀ w kq kc, Sw e4 w p q m x aL0 → Below e4 w8 w → e4 ≤ w.heap.size → By e4 w (.slice kq 32 kc) aK → Calls Tryz.prog 22 #[.pointer (some ⟨p, 0, none⟩), .slice q1 n c, .slice kq 32 kc, .agg #[.int .i64 r1, .int .i64 r2, .int .i64 r3, .int .i64 r4, .slice rq rl rc], .agg #[.int .i64 a1, .int .i64 a2, .int .i64 a3, .slice np nl nc, .slice vp vl vc, .int .i64 a6, .int .i64 a7, .int .i64 a8, .slice wp wl wc]] w fun e w' => ∃ q' c', e = .returned (.tuple #[.agg (RecV RA q' c'), .int .i64 xe]) ∧ By e4 w' (.slice q' RA.box.length c') RA.box ∧ Sw e4 w' p q m x (sls aL0 k aK r a) ∧ Fr [p, m, x] TU e4 w w') := fun w kq kc g1 g2 g3 g4 => by
              have g5 := H8.out.bel.trans g2
              have hs := Seal_u (L := aL0) (k := k) (ke := aK) r rq rc a (.agg #[.int .i64 a1, .int .i64 a2, .int .i64 a3, .slice np nl nc, .slice vp vl vc, .int .i64 a6, .int .i64 a7, .int .i64 a8, .slice wp wl wc]) g1 (by decide) g3 (by_arg HK.out HE4.out g5) (by rw [k32]; exact g4) (HA.out.below (HW0.out _ g5))
              rw [k32, HSR.out, HSE.out, HR.out] at hs
              exact hs
            have HSLB : Hid (∀ w kq kc, Sw e4 w p2 q2 m2 x2 aL0 → Below e4 w8 w → e4 ≤ w.heap.size → By e4 w (.slice kq 32 kc) aK → Calls Tryz.prog 22 #[.pointer (some ⟨p2, 0, none⟩), .slice q1 n c, .slice kq 32 kc, .agg #[.int .i64 r1, .int .i64 r2, .int .i64 r3, .int .i64 r4, .slice rq rl rc], .agg #[.int .i64 b1, .int .i64 a2, .int .i64 b3, .slice np' nl' nc', .slice vp' vl' vc', .int .i64 b6, .int .i64 b7', .int .i64 b8, .slice wp' wl' wc']] w fun e w' => ∃ q' c', e = .returned (.tuple #[.agg (RecV RA q' c'), .int .i64 xe]) ∧ By e4 w' (.slice q' RA.box.length c') RA.box ∧ Sw e4 w' p2 q2 m2 x2 (sls aL0 k aK r b) ∧ Fr [p2, m2, x2] TU e4 w w') := fun w kq kc g1 g2 g3 g4 => by
              have g5 := H8.out.bel.trans g2
              have hs := Seal_u (L := aL0) (k := k) (ke := aK) r rq rc b (.agg #[.int .i64 b1, .int .i64 a2, .int .i64 b3, .slice np' nl' nc', .slice vp' vl' vc', .int .i64 b6, .int .i64 b7', .int .i64 b8, .slice wp' wl' wc']) g1 (by decide) g3 (by_arg HK.out HE4.out g5) (by rw [k32]; exact g4) (HB.out.below (HW0.out _ g5))
              rw [k32, HSR2.out, HSE2.out, HR.out] at hs
              exact hs
            clear HA HB HK HR HSR HSR2 HSE HSE2 k32 HE4
            go_upto_region 9 with fail
            have K : Amk [3, 6] (fun j W => match j with | 0 => Sw e4 W p q m x [] | 1 => Sw e4 W p q m x aL0 | _ => Sw e4 W p q m x (sls aL0 k aK r a)) e4 TU [some 24] [⟨10, 11, 13, 24, z5, (fun C w => RecW e4 RA (.agg C) w)⟩] w8 := ⟨H8.out.low, (all1 ⟨(by decide : some 24 ∉ TU), (by decide : some 24 ∈ ([some 24] : List (Option TypeId))), (by decide : 10 ∉ ([3, 6] : List Nat)), (by decide : 11 ∉ ([3, 6] : List Nat))⟩), (all1 (all1 (fun _ => rfl))), (all1 (all1 (by decide : (10 : Nat) ≠ 11))), (all1 (fun C u u' h ho => (by obtain ⟨z1, z2, h1, h2⟩ := h; exact ⟨z1, z2, h1, h2.kx ho (by decide)⟩))), (fun j u u' h hk => by match j, h with | 0, h => exact h.kx hk (by decide) (by decide) (by decide) | 1, h => exact h.kx hk (by decide) (by decide) (by decide) | _ + 2, h => exact h.kx hk (by decide) (by decide) (by decide))⟩
            have hd0 := S7.below_drewN 1 w8 w8.heap.size
            refine wp_region_sa (rg9 e4 p RA xe q1 n c a1 a2 a3 a6 a7 a8 np vp wp nl nc vl vc wl wc r1 r2 r3 r4 rq rl rc) (fun u u' => Kx ([some 24] ++ TU) e4 u u') (Am [p, m, x] [3, 6] (fun j W => match j with | 0 => Sw e4 W p q m x [] | 1 => Sw e4 W p q m x aL0 | _ => Sw e4 W p q m x (sls aL0 k aK r a)) w8 [⟨10, 11, 13, 24, z5, (fun C w => RecW e4 RA (.agg C) w)⟩]) (by kernel_rfl) (Kx.of_below hd0 K.low) (fun _ _ _ h k => h.trans k) (rg9_kept e4 p RA xe q1 n c a1 a2 a3 a6 a7 a8 np vp wp nl nc vl vc wl wc r1 r2 r3 r4 rq rl rc) (by kernel_rfl) (Am.start (S7.Only.of_below hd0 _) (HSW.out.below hd0)) ?_ ?_
            · intro i o a' w' f hi inv hS hfi hfw hpre
              have hlt : i < 13 := (Array.getElem?_eq_some_iff.1 hi).1
              obtain rfl|rfl|rfl|rfl|rfl|rfl|rfl|rfl|rfl|rfl|rfl|rfl|rfl : i = 0 ∨ i = 1 ∨ i = 2 ∨ i = 3 ∨ i = 4 ∨ i = 5 ∨ i = 6 ∨ i = 7 ∨ i = 8 ∨ i = 9 ∨ i = 10 ∨ i = 11 ∨ i = 12 := by omega
              · obtain rfl := Option.some.inj hi
                have h0 : a'.tmps.getD 11 undef = (.pointer (some ⟨p, 0, none⟩)) := by rw [inv.old 11 (notDst_spec (by kernel_rfl))]; rfl
                exact am_value K _ rfl rfl (rfl) (by decide) (all1 ⟨(by decide : (0 : Nat) ≠ 10), (by decide : (0 : Nat) ≠ 11)⟩) (all1 (by decide : (some 67 : Option Tmp) ≠ some 13)) hS h0
              · obtain rfl := Option.some.inj hi
                have h0 : a'.tmps.getD 2 undef = (.slice q1 n c) := by rw [inv.old 2 (notDst_spec (by kernel_rfl))]; rfl
                exact am_value K _ rfl rfl (rfl) (by decide) (all1 ⟨(by decide : (1 : Nat) ≠ 10), (by decide : (1 : Nat) ≠ 11)⟩) (all1 (by decide : (some 68 : Option Tmp) ≠ some 13)) hS h0
              · obtain rfl := Option.some.inj hi
                have h0 : a'.tmps.getD 11 undef = (.pointer (some ⟨p, 0, none⟩)) := by rw [inv.old 11 (notDst_spec (by kernel_rfl))]; rfl
                exact am_value K _ rfl rfl (rfl) (by decide) (all1 ⟨(by decide : (2 : Nat) ≠ 10), (by decide : (2 : Nat) ≠ 11)⟩) (all1 (by decide : (some 69 : Option Tmp) ≠ some 13)) hS h0
              · obtain rfl := Option.some.inj hi
                have h0 : a'.tmps.getD 69 undef = (.pointer (some ⟨p, 0, none⟩)) := pre_of hpre 2 69 (by kernel_rfl) (by kernel_rfl)
                refine am_call K (k := 0) 18 #[a'.tmps.getD 69 undef] rfl rfl (by kernel_rfl) rfl (by decide) hfi (fun c h _ => absurd rfl h) (all1 ⟨(by decide : (3 : Nat) ≠ 10), (by decide : (3 : Nat) ≠ 11)⟩) (all1 (by decide : (some 70 : Option Tmp) ≠ some 13)) hS (fun hR => ?_)
                rw [h0]
                exact (S7.Key_s hR (by decide) (Nat.le_trans K.low hS.old.size)).mono (by rintro y u ⟨kv, rfl, h1, h2, h3⟩; obtain ⟨kq, kc, rfl⟩ := S7.own_slice h1; exact ⟨_, rfl, h3, h2, ⟨kq, kc, rfl, By.own (S7.Su.sign_lt (by decide) _) h1⟩⟩)
              · obtain rfl := Option.some.inj hi
                have h0 : a'.tmps.getD 7 undef = (.pointer (some ⟨e7, 0, none⟩)) := by rw [inv.old 7 (notDst_spec (by kernel_rfl))]; rfl
                exact am_value K _ rfl rfl (load_run 24 7 e7 (0) _ rfl h0 (ld24r ⟨row_old hS.old HNI.out.1 H8.out.rc, rfl⟩)) (by decide) (all1 ⟨(by decide : (4 : Nat) ≠ 10), (by decide : (4 : Nat) ≠ 11)⟩) (all1 (by decide : (some 71 : Option Tmp) ≠ some 13)) hS rfl
              · obtain rfl := Option.some.inj hi
                have h0 : a'.tmps.getD 4 undef = (.pointer (some ⟨e4, 0, none⟩)) := by rw [inv.old 4 (notDst_spec (by kernel_rfl))]; rfl
                exact am_value K _ rfl rfl (load_run 49 4 e4 (0) _ rfl h0 (ld25 ⟨row_old hS.old HNI.out.2 H8.out.ra, rfl⟩)) (by decide) (all1 ⟨(by decide : (5 : Nat) ≠ 10), (by decide : (5 : Nat) ≠ 11)⟩) (all1 (by decide : (some 72 : Option Tmp) ≠ some 13)) hS rfl
              · obtain rfl := Option.some.inj hi
                have h0 : a'.tmps.getD 67 undef = (.pointer (some ⟨p, 0, none⟩)) := pre_of hpre 0 67 (by kernel_rfl) (by kernel_rfl)
                have h1 : a'.tmps.getD 68 undef = (.slice q1 n c) := pre_of hpre 1 68 (by kernel_rfl) (by kernel_rfl)
                obtain ⟨kq2, kc2, e2, f2⟩ := pre_of hpre 3 70 (by kernel_rfl) (by kernel_rfl)
                have h3 : a'.tmps.getD 71 undef = (.agg #[.int .i64 r1, .int .i64 r2, .int .i64 r3, .int .i64 r4, .slice rq rl rc]) := pre_of hpre 4 71 (by kernel_rfl) (by kernel_rfl)
                have h4 : a'.tmps.getD 72 undef = (.agg #[.int .i64 a1, .int .i64 a2, .int .i64 a3, .slice np nl nc, .slice vp vl vc, .int .i64 a6, .int .i64 a7, .int .i64 a8, .slice wp wl wc]) := pre_of hpre 5 72 (by kernel_rfl) (by kernel_rfl)
                refine am_call K (k := 1) 22 #[a'.tmps.getD 67 undef, a'.tmps.getD 68 undef, a'.tmps.getD 70 undef, a'.tmps.getD 71 undef, a'.tmps.getD 72 undef] rfl rfl (by kernel_rfl) rfl (by decide) hfi (fun c _ hc => by cases hc; exact been_of hfw 3 (by kernel_rfl)) (all1 ⟨(by decide : (6 : Nat) ≠ 10), (by decide : (6 : Nat) ≠ 11)⟩) (all1 (by decide : (some 73 : Option Tmp) ≠ some 13)) hS (fun hR => ?_)
                rw [h0, h1, e2, h3, h4]
                exact (HSLA.out w' _ _ hR (inv.grow.low) (Nat.le_trans K.low hS.old.size) f2).mono (by rintro y u ⟨q', c', rfl, h1, h2, h3⟩; exact ⟨_, rfl, h3, h2, ⟨q', c', rfl, h1⟩⟩)
              · obtain rfl := Option.some.inj hi
                have h0 := pre_of hpre 6 73 (by kernel_rfl) (by kernel_rfl)
                exact am_value K _ rfl rfl (rfl) (by decide) (all1 ⟨(by decide : (7 : Nat) ≠ 10), (by decide : (7 : Nat) ≠ 11)⟩) (all1 (by decide : (some 66 : Option Tmp) ≠ some 13)) hS h0
              · obtain rfl := Option.some.inj hi
                obtain ⟨q0, c0, e0, f0⟩ := pre_of hpre 7 66 (by kernel_rfl) (by kernel_rfl)
                exact am_value K _ rfl rfl (ext_run 66 0 _ _ rfl e0 rfl) (by decide) (all1 ⟨(by decide : (8 : Nat) ≠ 10), (by decide : (8 : Nat) ≠ 11)⟩) (all1 (by decide : (some 74 : Option Tmp) ≠ some 13)) hS ⟨_, _, rfl, f0⟩
              · obtain rfl := Option.some.inj hi
                obtain ⟨q0, c0, e0, f0⟩ := pre_of hpre 7 66 (by kernel_rfl) (by kernel_rfl)
                exact am_value K _ rfl rfl (ext_run 66 1 _ _ rfl e0 rfl) (by decide) (all1 ⟨(by decide : (9 : Nat) ≠ 10), (by decide : (9 : Nat) ≠ 11)⟩) (all1 (by decide : (some 75 : Option Tmp) ≠ some 13)) hS rfl
              · obtain rfl := Option.some.inj hi
                exact am_alloc K ⟨10, 11, 13, 24, z5, (fun C w => RecW e4 RA (.agg C) w)⟩ (List.mem_singleton.2 rfl) rfl rfl (al24_run rfl) rfl hfi rfl (by rw [inv.size]; exact (by decide : 13 < 94)) hS ⟨_, rfl⟩
              · obtain rfl := Option.some.inj hi
                obtain ⟨q0, c0, e0, f0⟩ := pre_of hpre 8 74 (by kernel_rfl) (by kernel_rfl)
                exact am_set K ⟨10, 11, 13, 24, z5, (fun C w => RecW e4 RA (.agg C) w)⟩ (List.mem_singleton.2 rfl) (RecV RA q0 c0) 74 rfl rfl rfl e0 (by kernel_rfl) rfl (by simp [RecV, Value.oneCell']) rfl hfi (been_of hfw 10 (by kernel_rfl)) rfl hS (fun w2 hk2 => ⟨⟨_, _, rfl, f0.kx hk2 (by decide)⟩, rfl⟩)
              · obtain rfl := Option.some.inj hi
                have h0 := pre_of hpre 9 75 (by kernel_rfl) (by kernel_rfl)
                exact am_value K _ rfl rfl (rfl) (by decide) (all1 ⟨(by decide : (12 : Nat) ≠ 10), (by decide : (12 : Nat) ≠ 11)⟩) (all1 (by decide : (some 14 : Option Tmp) ≠ some 13)) hS h0
            intro a' w9 f inv hS hall hd
            have hk12 := hd 12 14 (by kernel_rfl)
            obtain ⟨b13, C13, p13, lo13, hi13, row13, cp13⟩ := hS.at ⟨10, 11, 13, 24, z5, (fun C w => RecW e4 RA (.agg C) w)⟩ (List.mem_singleton.2 rfl) (hall 10 (by decide)) (hall 11 (by decide))
            have hR := hS.seq.done (fun c hc => hall c (by simp only [List.mem_cons, List.not_mem_nil, or_false] at hc; show c < 13; omega))
            have hold : S7.Only [p, m, x] w8 w9 := hS.old
            have hgrow : Kx ([some 24] ++ TU) e4 w8 w9 := inv.grow
            have hdf : a'.defers = [] := inv.defers
            have e := frame_of [13, 14, 66, 67, 68, 69, 70, 71, 72, 73, 74, 75] inv.size (fun t ht => inv.old t (dstsIn_spec (ts := [13, 14, 66, 67, 68, 69, 70, 71, 72, 73, 74, 75]) (by kernel_rfl) t ht))
            clear inv hd hall hS K hd0
            obtain ⟨tmps, defers⟩ := a'
            obtain rfl : defers = [] := hdf
            replace e : tmps = List.foldl (fun G t => G.setIfInBounds t (tmps.getD t undef)) _ [13, 14, 66, 67, 68, 69, 70, 71, 72, 73, 74, 75] := e
            simp only [List.foldl_cons, List.foldl_nil] at e
            replace p13 : tmps.getD 13 undef = .pointer (some ⟨b13, 0, none⟩) := p13
            replace hk12 : tmps.getD 14 undef = (.int .i64 xe) := hk12
            generalize tmps.getD 13 undef = x13 at *
            generalize tmps.getD 14 undef = x14 at *
            generalize tmps.getD 66 undef = x66 at *
            generalize tmps.getD 67 undef = x67 at *
            generalize tmps.getD 68 undef = x68 at *
            generalize tmps.getD 69 undef = x69 at *
            generalize tmps.getD 70 undef = x70 at *
            generalize tmps.getD 71 undef = x71 at *
            generalize tmps.getD 72 undef = x72 at *
            generalize tmps.getD 73 undef = x73 at *
            generalize tmps.getD 74 undef = x74 at *
            generalize tmps.getD 75 undef = x75 at *
            simp only [List.setIfInBounds_toArray, List.set_cons_succ, List.set_cons_zero] at e
            subst e
            subst p13
            subst hk12
            have H9 := hid (H8.out.only hold hgrow.low HNI.out.2 HNI5.out HNI.out.1)
            have HSW2 : Hid (Sw e4 w9 p2 q2 m2 x2 []) := HST2.out w9 hold
            have HLW : Hid (Below e4 w8 w9) := hgrow.low
            obtain ⟨q3, c3, e3, f3⟩ := cp13
            obtain rfl := Value.agg.inj e3
            have HB13 : Hid (w9.heap[b13]? = some (.cells (RecV RA q3 c3) 24 (0, 0)) ∧ By e4 w9 (.slice q3 RA.box.length c3) RA.box ∧ b13 ∉ [p2, m2, x2]) := ⟨row13, f3, by
              have := HLT2.out
              simp
              omega⟩
            clear e3 f3 row13 lo13 hi13 hR hold hgrow HSLA HSW HST2 HNI HNI5
            have HSLB2 : Hid (∀ w kq kc, Sw e4 w p2 q2 m2 x2 aL0 → Below e4 w9 w → e4 ≤ w.heap.size → By e4 w (.slice kq 32 kc) aK → Calls Tryz.prog 22 #[.pointer (some ⟨p2, 0, none⟩), .slice q1 n c, .slice kq 32 kc, .agg #[.int .i64 r1, .int .i64 r2, .int .i64 r3, .int .i64 r4, .slice rq rl rc], .agg #[.int .i64 b1, .int .i64 a2, .int .i64 b3, .slice np' nl' nc', .slice vp' vl' vc', .int .i64 b6, .int .i64 b7', .int .i64 b8, .slice wp' wl' wc']] w fun e w' => ∃ q' c', e = .returned (.tuple #[.agg (RecV RA q' c'), .int .i64 xe]) ∧ By e4 w' (.slice q' RA.box.length c') RA.box ∧ Sw e4 w' p2 q2 m2 x2 (sls aL0 k aK r b) ∧ Fr [p2, m2, x2] TU e4 w w') := fun w kq kc g1 g2 g3 g4 => HSLB.out w kq kc g1 (HLW.out.trans g2) g3 g4
            clear HSLB
            have HSW := HSW2
            go_upto_region 10 with fail
            have K : Amk [3, 6] (fun j W => match j with | 0 => Sw e4 W p2 q2 m2 x2 [] | 1 => Sw e4 W p2 q2 m2 x2 aL0 | _ => Sw e4 W p2 q2 m2 x2 (sls aL0 k aK r b)) e4 TU [some 24] [⟨10, 11, 15, 24, z5, (fun C w => RecW e4 RA (.agg C) w)⟩] w9 := ⟨H9.out.low, (all1 ⟨(by decide : some 24 ∉ TU), (by decide : some 24 ∈ ([some 24] : List (Option TypeId))), (by decide : 10 ∉ ([3, 6] : List Nat)), (by decide : 11 ∉ ([3, 6] : List Nat))⟩), (all1 (all1 (fun _ => rfl))), (all1 (all1 (by decide : (10 : Nat) ≠ 11))), (all1 (fun C u u' h ho => (by obtain ⟨z1, z2, h1, h2⟩ := h; exact ⟨z1, z2, h1, h2.kx ho (by decide)⟩))), (fun j u u' h hk => by match j, h with | 0, h => exact h.kx hk (by decide) (by decide) (by decide) | 1, h => exact h.kx hk (by decide) (by decide) (by decide) | _ + 2, h => exact h.kx hk (by decide) (by decide) (by decide))⟩
            have hd0 := S7.below_drewN 1 w9 w9.heap.size
            refine wp_region_sa (rg10 e4 p2 RA xe q1 n c a2 b1 b3 b6 b7' b8 np' vp' wp' nl' nc' vl' vc' wl' wc' r1 r2 r3 r4 rq rl rc) (fun u u' => Kx ([some 24] ++ TU) e4 u u') (Am [p2, m2, x2] [3, 6] (fun j W => match j with | 0 => Sw e4 W p2 q2 m2 x2 [] | 1 => Sw e4 W p2 q2 m2 x2 aL0 | _ => Sw e4 W p2 q2 m2 x2 (sls aL0 k aK r b)) w9 [⟨10, 11, 15, 24, z5, (fun C w => RecW e4 RA (.agg C) w)⟩]) (by kernel_rfl) (Kx.of_below hd0 K.low) (fun _ _ _ h k => h.trans k) (rg10_kept e4 p2 RA xe q1 n c a2 b1 b3 b6 b7' b8 np' vp' wp' nl' nc' vl' vc' wl' wc' r1 r2 r3 r4 rq rl rc) (by kernel_rfl) (Am.start (S7.Only.of_below hd0 _) (HSW.out.below hd0)) ?_ ?_
            · intro i o a' w' f hi inv hS hfi hfw hpre
              have hlt : i < 13 := (Array.getElem?_eq_some_iff.1 hi).1
              obtain rfl|rfl|rfl|rfl|rfl|rfl|rfl|rfl|rfl|rfl|rfl|rfl|rfl : i = 0 ∨ i = 1 ∨ i = 2 ∨ i = 3 ∨ i = 4 ∨ i = 5 ∨ i = 6 ∨ i = 7 ∨ i = 8 ∨ i = 9 ∨ i = 10 ∨ i = 11 ∨ i = 12 := by omega
              · obtain rfl := Option.some.inj hi
                have h0 : a'.tmps.getD 12 undef = (.pointer (some ⟨p2, 0, none⟩)) := by rw [inv.old 12 (notDst_spec (by kernel_rfl))]; rfl
                exact am_value K _ rfl rfl (rfl) (by decide) (all1 ⟨(by decide : (0 : Nat) ≠ 10), (by decide : (0 : Nat) ≠ 11)⟩) (all1 (by decide : (some 77 : Option Tmp) ≠ some 15)) hS h0
              · obtain rfl := Option.some.inj hi
                have h0 : a'.tmps.getD 2 undef = (.slice q1 n c) := by rw [inv.old 2 (notDst_spec (by kernel_rfl))]; rfl
                exact am_value K _ rfl rfl (rfl) (by decide) (all1 ⟨(by decide : (1 : Nat) ≠ 10), (by decide : (1 : Nat) ≠ 11)⟩) (all1 (by decide : (some 78 : Option Tmp) ≠ some 15)) hS h0
              · obtain rfl := Option.some.inj hi
                have h0 : a'.tmps.getD 12 undef = (.pointer (some ⟨p2, 0, none⟩)) := by rw [inv.old 12 (notDst_spec (by kernel_rfl))]; rfl
                exact am_value K _ rfl rfl (rfl) (by decide) (all1 ⟨(by decide : (2 : Nat) ≠ 10), (by decide : (2 : Nat) ≠ 11)⟩) (all1 (by decide : (some 79 : Option Tmp) ≠ some 15)) hS h0
              · obtain rfl := Option.some.inj hi
                have h0 : a'.tmps.getD 79 undef = (.pointer (some ⟨p2, 0, none⟩)) := pre_of hpre 2 79 (by kernel_rfl) (by kernel_rfl)
                refine am_call K (k := 0) 18 #[a'.tmps.getD 79 undef] rfl rfl (by kernel_rfl) rfl (by decide) hfi (fun c h _ => absurd rfl h) (all1 ⟨(by decide : (3 : Nat) ≠ 10), (by decide : (3 : Nat) ≠ 11)⟩) (all1 (by decide : (some 80 : Option Tmp) ≠ some 15)) hS (fun hR => ?_)
                rw [h0]
                exact (S7.Key_s hR (by decide) (Nat.le_trans K.low hS.old.size)).mono (by rintro y u ⟨kv, rfl, h1, h2, h3⟩; obtain ⟨kq, kc, rfl⟩ := S7.own_slice h1; exact ⟨_, rfl, h3, h2, ⟨kq, kc, rfl, By.own (S7.Su.sign_lt (by decide) _) h1⟩⟩)
              · obtain rfl := Option.some.inj hi
                have h0 : a'.tmps.getD 7 undef = (.pointer (some ⟨e7, 0, none⟩)) := by rw [inv.old 7 (notDst_spec (by kernel_rfl))]; rfl
                exact am_value K _ rfl rfl (load_run 24 7 e7 (0) _ rfl h0 (ld24r ⟨row_old hS.old HNJ.out.1 H9.out.rc, rfl⟩)) (by decide) (all1 ⟨(by decide : (4 : Nat) ≠ 10), (by decide : (4 : Nat) ≠ 11)⟩) (all1 (by decide : (some 81 : Option Tmp) ≠ some 15)) hS rfl
              · obtain rfl := Option.some.inj hi
                have h0 : a'.tmps.getD 5 undef = (.pointer (some ⟨e5, 0, none⟩)) := by rw [inv.old 5 (notDst_spec (by kernel_rfl))]; rfl
                exact am_value K _ rfl rfl (load_run 49 5 e5 (0) _ rfl h0 (ld25 ⟨row_old hS.old HNJ.out.2 H9.out.rb, rfl⟩)) (by decide) (all1 ⟨(by decide : (5 : Nat) ≠ 10), (by decide : (5 : Nat) ≠ 11)⟩) (all1 (by decide : (some 82 : Option Tmp) ≠ some 15)) hS rfl
              · obtain rfl := Option.some.inj hi
                have h0 : a'.tmps.getD 77 undef = (.pointer (some ⟨p2, 0, none⟩)) := pre_of hpre 0 77 (by kernel_rfl) (by kernel_rfl)
                have h1 : a'.tmps.getD 78 undef = (.slice q1 n c) := pre_of hpre 1 78 (by kernel_rfl) (by kernel_rfl)
                obtain ⟨kq2, kc2, e2, f2⟩ := pre_of hpre 3 80 (by kernel_rfl) (by kernel_rfl)
                have h3 : a'.tmps.getD 81 undef = (.agg #[.int .i64 r1, .int .i64 r2, .int .i64 r3, .int .i64 r4, .slice rq rl rc]) := pre_of hpre 4 81 (by kernel_rfl) (by kernel_rfl)
                have h4 : a'.tmps.getD 82 undef = (.agg #[.int .i64 b1, .int .i64 a2, .int .i64 b3, .slice np' nl' nc', .slice vp' vl' vc', .int .i64 b6, .int .i64 b7', .int .i64 b8, .slice wp' wl' wc']) := pre_of hpre 5 82 (by kernel_rfl) (by kernel_rfl)
                refine am_call K (k := 1) 22 #[a'.tmps.getD 77 undef, a'.tmps.getD 78 undef, a'.tmps.getD 80 undef, a'.tmps.getD 81 undef, a'.tmps.getD 82 undef] rfl rfl (by kernel_rfl) rfl (by decide) hfi (fun c _ hc => by cases hc; exact been_of hfw 3 (by kernel_rfl)) (all1 ⟨(by decide : (6 : Nat) ≠ 10), (by decide : (6 : Nat) ≠ 11)⟩) (all1 (by decide : (some 83 : Option Tmp) ≠ some 15)) hS (fun hR => ?_)
                rw [h0, h1, e2, h3, h4]
                exact (HSLB2.out w' _ _ hR (inv.grow.low) (Nat.le_trans K.low hS.old.size) f2).mono (by rintro y u ⟨q', c', rfl, h1, h2, h3⟩; exact ⟨_, rfl, h3, h2, ⟨q', c', rfl, h1⟩⟩)
              · obtain rfl := Option.some.inj hi
                have h0 := pre_of hpre 6 83 (by kernel_rfl) (by kernel_rfl)
                exact am_value K _ rfl rfl (rfl) (by decide) (all1 ⟨(by decide : (7 : Nat) ≠ 10), (by decide : (7 : Nat) ≠ 11)⟩) (all1 (by decide : (some 76 : Option Tmp) ≠ some 15)) hS h0
              · obtain rfl := Option.some.inj hi
                obtain ⟨q0, c0, e0, f0⟩ := pre_of hpre 7 76 (by kernel_rfl) (by kernel_rfl)
                exact am_value K _ rfl rfl (ext_run 76 0 _ _ rfl e0 rfl) (by decide) (all1 ⟨(by decide : (8 : Nat) ≠ 10), (by decide : (8 : Nat) ≠ 11)⟩) (all1 (by decide : (some 84 : Option Tmp) ≠ some 15)) hS ⟨_, _, rfl, f0⟩
              · obtain rfl := Option.some.inj hi
                obtain ⟨q0, c0, e0, f0⟩ := pre_of hpre 7 76 (by kernel_rfl) (by kernel_rfl)
                exact am_value K _ rfl rfl (ext_run 76 1 _ _ rfl e0 rfl) (by decide) (all1 ⟨(by decide : (9 : Nat) ≠ 10), (by decide : (9 : Nat) ≠ 11)⟩) (all1 (by decide : (some 85 : Option Tmp) ≠ some 15)) hS rfl
              · obtain rfl := Option.some.inj hi
                exact am_alloc K ⟨10, 11, 15, 24, z5, (fun C w => RecW e4 RA (.agg C) w)⟩ (List.mem_singleton.2 rfl) rfl rfl (al24_run rfl) rfl hfi rfl (by rw [inv.size]; exact (by decide : 15 < 94)) hS ⟨_, rfl⟩
              · obtain rfl := Option.some.inj hi
                obtain ⟨q0, c0, e0, f0⟩ := pre_of hpre 8 84 (by kernel_rfl) (by kernel_rfl)
                exact am_set K ⟨10, 11, 15, 24, z5, (fun C w => RecW e4 RA (.agg C) w)⟩ (List.mem_singleton.2 rfl) (RecV RA q0 c0) 84 rfl rfl rfl e0 (by kernel_rfl) rfl (by simp [RecV, Value.oneCell']) rfl hfi (been_of hfw 10 (by kernel_rfl)) rfl hS (fun w2 hk2 => ⟨⟨_, _, rfl, f0.kx hk2 (by decide)⟩, rfl⟩)
              · obtain rfl := Option.some.inj hi
                have h0 := pre_of hpre 9 85 (by kernel_rfl) (by kernel_rfl)
                exact am_value K _ rfl rfl (rfl) (by decide) (all1 ⟨(by decide : (12 : Nat) ≠ 10), (by decide : (12 : Nat) ≠ 11)⟩) (all1 (by decide : (some 16 : Option Tmp) ≠ some 15)) hS h0
            intro a' w10 f inv hS hall hd
            have hk12 := hd 12 16 (by kernel_rfl)
            obtain ⟨b15, C15, p15, lo15, hi15, row15, cp15⟩ := hS.at ⟨10, 11, 15, 24, z5, (fun C w => RecW e4 RA (.agg C) w)⟩ (List.mem_singleton.2 rfl) (hall 10 (by decide)) (hall 11 (by decide))
            have hR := hS.seq.done (fun c hc => hall c (by simp only [List.mem_cons, List.not_mem_nil, or_false] at hc; show c < 13; omega))
            have hold : S7.Only [p2, m2, x2] w9 w10 := hS.old
            have hgrow : Kx ([some 24] ++ TU) e4 w9 w10 := inv.grow
            have hdf : a'.defers = [] := inv.defers
            have e := frame_of [15, 16, 76, 77, 78, 79, 80, 81, 82, 83, 84, 85] inv.size (fun t ht => inv.old t (dstsIn_spec (ts := [15, 16, 76, 77, 78, 79, 80, 81, 82, 83, 84, 85]) (by kernel_rfl) t ht))
            clear inv hd hall hS K hd0
            obtain ⟨tmps, defers⟩ := a'
            obtain rfl : defers = [] := hdf
            replace e : tmps = List.foldl (fun G t => G.setIfInBounds t (tmps.getD t undef)) _ [15, 16, 76, 77, 78, 79, 80, 81, 82, 83, 84, 85] := e
            simp only [List.foldl_cons, List.foldl_nil] at e
            replace p15 : tmps.getD 15 undef = .pointer (some ⟨b15, 0, none⟩) := p15
            replace hk12 : tmps.getD 16 undef = (.int .i64 xe) := hk12
            generalize tmps.getD 15 undef = x15 at *
            generalize tmps.getD 16 undef = x16 at *
            generalize tmps.getD 76 undef = x76 at *
            generalize tmps.getD 77 undef = x77 at *
            generalize tmps.getD 78 undef = x78 at *
            generalize tmps.getD 79 undef = x79 at *
            generalize tmps.getD 80 undef = x80 at *
            generalize tmps.getD 81 undef = x81 at *
            generalize tmps.getD 82 undef = x82 at *
            generalize tmps.getD 83 undef = x83 at *
            generalize tmps.getD 84 undef = x84 at *
            generalize tmps.getD 85 undef = x85 at *
            simp only [List.setIfInBounds_toArray, List.set_cons_succ, List.set_cons_zero] at e
            subst e
            subst p15
            subst hk12
            have H10 := hid (H9.out.only hold hgrow.low HNJ4.out HNJ.out.2 HNJ.out.1)
            obtain ⟨q5, c5, e5', f5⟩ := cp15
            obtain rfl := Value.agg.inj e5'
            have r13 := row_old hold HB13.out.2.2 HB13.out.1
            have f13 := HB13.out.2.1.kx hgrow (by decide)
            have r15 : w10.heap[b15]? = some (.cells (RecV RA q5 c5) 24 (0, 0)) := row15
            have HSM : Hid (Calls Tryz.prog 15 #[.agg (RecV RA q3 c3), .agg (RecV RA q5 c5)] w10 fun e w' => e = .returned (.bool true) ∧ Below e4 w10 w') := (rsame_any w10 RA RA q3 q5 c3 c5 f13.src f5.src).mono (by
              rintro e w' ⟨rfl, h⟩
              rw [(rsame_iff RA RA).2 rfl]
              exact ⟨rfl, h.mono H10.out.low⟩)
            clear e5' f5 row15 lo15 hi15 hR hold hgrow HSLB2 HSW HSW2 HNJ HNJ4 HB13 f13 H8 H9 HLT2 HLW
            unfold RecV at *
            obtain ⟨d0, d1, d2, d3, d4, -⟩ := rec_cells r13
            obtain ⟨g0, g1, g2, g3, g4, -⟩ := rec_cells r15
            clear r13 r15
            go_wp2_with fail
            refine HSM.out.mono ?_
            rintro e w11 ⟨rfl, h1⟩
            have HZ : Hid (Below e4 W w11) := H10.out.bel.trans h1
            clear h1 HSM H10 d0 d1 d2 d3 d4 g0 g1 g2 g3 g4
            go_wp2_with fail
            go_ret
            exact ⟨rfl, HW0.out _ HZ.out⟩
end Go.Proofs.YtfjdaafckiefdaaGreatDoor.S15
