/- Steps of a drawn region whose frame is told by the blocks' own types. -/
import Derived.Test.YtbblokikhocdfaaDoorS7SigF
namespace Go.Proofs.YtbblokikhocdfaaDoor.S7
open Go.RowKit
section
variable {P : Program} {ops : Array Oper} {Q : Exit → Act → World → Prop} {V : Nat → Value → World → Prop} {cs : List Nat} {R : Nat → World → Prop} {f : Nat → Bool} {ts : List (Option TypeId)} {B : Nat}
theorem sk_value {i : Nat} {o : Oper} {a' : Act} {w' w'' : World} (v : Value) (hi : ops[i]? = some o) (hw : Region.wanted o (yielded ops a'.tmps) = true)
    (hr : (execOp a'.eval o).run P w' = .ok (.value v) w'') (hb : Below w'.heap.size w' w'') (hB : B ≤ w'.heap.size) (hn : i ∉ cs) (hS : SeqS cs R f w') (hR : ∀ k w w', Below w.heap.size w w' → R k w → R k w') (hv : V i v w'') :
    wpOp P ops Q i (fun a'' w2 => Kx ts B w' w2 ∧ SeqS cs R (fun j => if j = i then true else f j) w2 ∧ ∃ v, a'' = a'.put o.dst v ∧ V i v w2) a' w' :=
  wpOp_value v hi hw hr ⟨Kx.of_below hb hB, hS.quiet hn (fun k => hR k w' w'' hb), v, rfl, hv⟩
theorem sk_call {i k : Nat} {o : Oper} {a' : Act} {w' : World} (fn : FuncId) (args : Array Value) (hi : ops[i]? = some o) (hw : Region.wanted o (yielded ops a'.tmps) = true)
    (hr : (execOp a'.eval o).run P w' = .ok (.enter fn args) w') (hk : cs[k]? = some i) (hnd : cs.Nodup) (hf : f i = false) (hp : ∀ c, k ≠ 0 → cs[k - 1]? = some c → f c = true) (hS : SeqS cs R f w')
    (h : R k w' → Calls P fn args w' fun e w2 => ∃ v, e = .returned v ∧ Kx ts B w' w2 ∧ R (k + 1) w2 ∧ V i v w2) :
    wpOp P ops Q i (fun a'' w2 => Kx ts B w' w2 ∧ SeqS cs R (fun j => if j = i then true else f j) w2 ∧ ∃ v, a'' = a'.put o.dst v ∧ V i v w2) a' w' := by
  obtain ⟨h1, h2⟩ := hS.at hk hf hp
  exact wpOp_call fn args hi hw hr ((h h1).mono fun _ _ ⟨v, he, hg, hR, hv⟩ => ⟨v, he, hg, SeqS.next hk hnd h2 hR, v, rfl, hv⟩)
theorem sk_skip {i : Nat} {o : Oper} {a' : Act} {w' : World} (hi : ops[i]? = some o) (hw : Region.wanted o (yielded ops a'.tmps) = false) (hn : i ∉ cs) (hS : SeqS cs R f w') (hv : V i undef w') :
    wpOp P ops Q i (fun a'' w2 => Kx ts B w' w2 ∧ SeqS cs R (fun j => if j = i then true else f j) w2 ∧ ∃ v, a'' = a'.put o.dst v ∧ V i v w2) a' w' := by
  unfold wpOp
  simp only [hi, hw]
  exact ⟨Kx.refl _ _ _, hS.quiet hn (fun _ h => h), undef, rfl, hv⟩
theorem sk_quiet {i : Nat} {o : Oper} {a' : Act} {w' : World} (fn : FuncId) (args : Array Value) (hi : ops[i]? = some o) (hw : Region.wanted o (yielded ops a'.tmps) = true)
    (hr : (execOp a'.eval o).run P w' = .ok (.enter fn args) w') (hn : i ∉ cs) (hS : SeqS cs R f w')
    (h : Calls P fn args w' fun e w2 => ∃ v, e = .returned v ∧ Kx ts B w' w2 ∧ (∀ k, R k w' → R k w2) ∧ V i v w2) :
    wpOp P ops Q i (fun a'' w2 => Kx ts B w' w2 ∧ SeqS cs R (fun j => if j = i then true else f j) w2 ∧ ∃ v, a'' = a'.put o.dst v ∧ V i v w2) a' w' :=
  wpOp_call fn args hi hw hr (h.mono fun _ _ ⟨v, he, hg, hR, hv⟩ => ⟨v, he, hg, hS.quiet hn hR, v, rfl, hv⟩)
end
/-- A part that is laid for a call, its block told by its type. -/
def PartK (x v : Value) (w : World) : Prop := ∃ g, v = .slice (some ⟨g, 0, none⟩) 1 1 ∧ w.heap[g]? = some (.cells #[x] 32 (0, 0))
theorem PartK.kx {x v : Value} {w w' : World} {ts : List (Option TypeId)} {B : Nat} (h : PartK x v w) (hk : Kx ts B w w') (h32 : some 32 ∉ ts) : PartK x v w' := by
  obtain ⟨g, rfl, h1⟩ := h
  exact ⟨g, rfl, hk.row g _ h1 h32⟩
theorem PartK.cell {x v : Value} {w : World} (h : PartK x v w) : ∃ g, v = .slice (some ⟨g, 0, none⟩) 1 1 ∧ w.cell? ⟨g, 0, none⟩ = some x := by
  obtain ⟨g, rfl, h1⟩ := h
  exact ⟨g, rfl, by rw [cell_of_row _ _ _ _ _ _ h1]; rfl⟩
theorem partK_new (w : World) (x : Value) : PartK x (.slice (some ⟨w.heap.size, 0, none⟩) 1 1) (w.alloc (.cells #[x] 32)) := ⟨_, rfl, heap_alloc_new w _⟩
def ByV (B : Nat) (l : List Nat) (v : Value) (w : World) : Prop := By B w v l
theorem ByV.kx {B : Nat} {l : List Nat} {v : Value} {w w' : World} {ts : List (Option TypeId)} (h : ByV B l v w) (hk : Kx ts B w w') (h5 : some 5 ∉ ts) : ByV B l v w' := By.kx h hk h5
theorem kx_drew (ts : List (Option TypeId)) (B : Nat) (w : World) : Kx ts B w { w with drawn := w.drawn + 1 } := ⟨below_drewN 1 w B, fun _ _ h _ => h⟩
theorem kx_trans (ts : List (Option TypeId)) (B : Nat) (x y z : World) (h : Kx ts B x y) (h' : Kx ts B y z) : Kx ts B x z := h.trans h'
section
variable {B p q m x d : Nat} {w : World} {L M : List Su.Thing}
theorem pOpen (k n o bs : List Nat) (kv nv ov bv : Value) (h : Pr B w p q m x d L M) (hk : By B w kv k) (hn : By B w nv n) (ho : By B w ov o) (hb : By B w bv bs) (lk : k.length = 32) (ln : n.length = 12) (hbl : bs.length ≤ 60000) (hL : L.length < 1000000) (hS : ∀ u ∈ L, u.2.2.2.2.length ≤ 50000) :
    Calls Tryd.prog 21 #[.pointer (some ⟨p, 0, none⟩), kv, nv, ov, bv] w fun e w' => OpenSays w.heap.size (Su.opens k n o bs 0 L) e w' ∧ Below w.heap.size w w' ∧ Pr B w' p q m x d L M :=
  (Open_any k n o bs kv nv ov bv p q m x L w h.su hk.src hn.src ho.src hb.src lk ln hbl hL hS).mono (fun _ _ h1 => ⟨h1.1, h1.2, h.below h1.2⟩)
theorem pROpen (k n o bs : List Nat) (kv nv ov bv : Value) (h : Pr B w p q m x d L M) (hk : By B w kv k) (hn : By B w nv n) (ho : By B w ov o) (hb : By B w bv bs) (lk : k.length = 32) (ln : n.length = 12) (hL : M.length < 1000000) (hS : ∀ u ∈ M, u.2.2.2.2.length ≤ 50000) :
    Calls Tryd.prog 22 #[.pointer (some ⟨d, 0, none⟩), kv, nv, ov, bv] w fun e w' => ROpenSays B (Su.opens k n o bs 0 M) e w' ∧ Below w.heap.size w w' ∧ Pr B w' p q m x d L M :=
  (rOpen_any k n o bs kv nv ov bv B d M w h.doc hk hn ho hb lk ln hL hS).mono (fun _ _ h1 => ⟨h1.1, h1.2, h.below h1.2⟩)
end
end Go.Proofs.YtbblokikhocdfaaDoor.S7
