/- Regions that draw their order, hold calls one after the other, and lay and set a struct of their own. -/
import Derived.Test.YtfjdaafckiefdaaGreatDoorMgN
import Derived.Test.YtfjdaafckiefdaaGreatDoorMgC
import Derived.Test.YtfjdaafckiefdaaGreatDoorMgR
namespace Go.Proofs.YtfjdaafckiefdaaGreatDoor.S15
open Go.RowKit C8 E9
/-- Of the calls so many have been; the struct, once it is laid, is as it was laid, or as it was set. -/
structure As (cs : List Nat) (R : Nat → World → Prop) (base ia st : Nat) (da : Tmp) (T : TypeId) (Z : Array Value) (CP : Array Value → World → Prop) (f : Nat → Bool) (a : Act) (w : World) : Prop where
  seq : SeqS cs R f w
  siz : base ≤ w.heap.size
  alc : f ia = true → ∃ b, a.tmps.getD da undef = .pointer (some ⟨b, 0, none⟩) ∧ base ≤ b ∧ b < w.heap.size ∧ (f st = false → w.heap[b]? = some (.cells Z T (0, 0))) ∧ (f st = true → ∃ C, w.heap[b]? = some (.cells C T (0, 0)) ∧ CP C w)
  sto : f st = true → f ia = true ∧ ∀ c ∈ cs, f c = true
section
variable {P : Program} {ops : Array Oper} {Q : Exit → Act → World → Prop} {V : Nat → Value → World → Prop} {G : World → World → Prop} {cs : List Nat} {R : Nat → World → Prop} {base ia st : Nat} {da : Tmp} {T : TypeId} {Z : Array Value} {CP : Array Value → World → Prop} {f : Nat → Bool} {i : Nat} {o : Oper} {a' : Act} {w' : World}
theorem As.start {a : Act} {w : World} (h : R 0 w) (hb : base ≤ w.heap.size) : As cs R base ia st da T Z CP (fun _ => false) a w := ⟨SeqS.start h, hb, fun e => by simp at e, fun e => by simp at e⟩
theorem as_value (v : Value) (hi : ops[i]? = some o) (hw : Region.wanted o (yielded ops a'.tmps) = true) (hr : (execOp a'.eval o).run P w' = .ok (.value v) w') (hG : G w' w') (hn : i ∉ cs) (h1 : i ≠ ia) (h2 : i ≠ st) (hd : o.dst ≠ some da) (hS : As cs R base ia st da T Z CP f a' w') (hv : V i v w') :
    wpOp P ops Q i (fun a'' w2 => G w' w2 ∧ As cs R base ia st da T Z CP (fun j => if j = i then true else f j) a'' w2 ∧ ∃ v, a'' = a'.put o.dst v ∧ V i v w2) a' w' := by
  refine wpOp_value v hi hw hr ⟨hG, ⟨hS.seq.quiet hn (fun _ h => h), hS.siz, fun h => ?_, fun h => ?_⟩, v, rfl, hv⟩
  · have h' : f ia = true := by simpa [Ne.symm h1] using h
    obtain ⟨b, k1, k2, k3, k4, k5⟩ := hS.alc h'
    refine ⟨b, by rw [getD_put _ _ _ _ hd]; exact k1, k2, k3, fun e => k4 ?_, fun e => k5 ?_⟩
    · simpa [Ne.symm h2] using e
    · simpa [Ne.symm h2] using e
  · have h' : f st = true := by simpa [Ne.symm h2] using h
    obtain ⟨k1, k2⟩ := hS.sto h'
    exact ⟨by simp [k1], fun c hc => by simp [k2 c hc]⟩
theorem as_call {k : Nat} (fn : FuncId) (args : Array Value) (hi : ops[i]? = some o) (hw : Region.wanted o (yielded ops a'.tmps) = true)
    (hr : (execOp a'.eval o).run P w' = .ok (.enter fn args) w') (hk : cs[k]? = some i) (hnd : cs.Nodup) (hf : f i = false) (hp : ∀ c, k ≠ 0 → cs[k - 1]? = some c → f c = true) (h1 : i ≠ ia) (h2 : i ≠ st) (hd : o.dst ≠ some da) (hS : As cs R base ia st da T Z CP f a' w')
    (h : R k w' → Calls P fn args w' fun e w2 => ∃ v, e = .returned v ∧ G w' w2 ∧ R (k + 1) w2 ∧ w'.heap.size ≤ w2.heap.size ∧ (∀ b, base ≤ b → w'.heap[b]? = some (.cells Z T (0, 0)) → w2.heap[b]? = some (.cells Z T (0, 0))) ∧ V i v w2) :
    wpOp P ops Q i (fun a'' w2 => G w' w2 ∧ As cs R base ia st da T Z CP (fun j => if j = i then true else f j) a'' w2 ∧ ∃ v, a'' = a'.put o.dst v ∧ V i v w2) a' w' := by
  obtain ⟨q1, q2⟩ := hS.seq.at hk hf hp
  have hst : f st = false := by
    cases e : f st with
    | false => rfl
    | true =>
      have := (hS.sto e).2 i (List.mem_of_getElem? hk)
      rw [hf] at this
      cases this
  refine wpOp_call fn args hi hw hr ((h q1).mono fun e w2 ⟨v, he, hg, hR, hz, hb, hv⟩ => ⟨v, he, hg, ⟨SeqS.next hk hnd q2 hR, Nat.le_trans hS.siz hz, fun h => ?_, fun h => ?_⟩, v, rfl, hv⟩)
  · have h' : f ia = true := by simpa [Ne.symm h1] using h
    obtain ⟨b, k1, k2, k3, k4, _⟩ := hS.alc h'
    refine ⟨b, by rw [getD_put _ _ _ _ hd]; exact k1, k2, Nat.lt_of_lt_of_le k3 hz, fun _ => hb b k2 (k4 hst), fun e => ?_⟩
    have : f st = true := by simpa [Ne.symm h2] using e
    rw [hst] at this
    cases this
  · have h' : f st = true := by simpa [Ne.symm h2] using h
    rw [hst] at h'
    cases h'
theorem as_alloc (hi : ops[i]? = some o) (hw : Region.wanted o (yielded ops a'.tmps) = true) (hr : (execOp a'.eval o).run P w' = .ok (.value (.pointer (some ⟨w'.heap.size, 0, none⟩))) (w'.alloc (.cells Z T))) (hG : G w' (w'.alloc (.cells Z T))) (hn : i ∉ cs) (h1 : i = ia) (h2 : i ≠ st) (hf : f i = false) (hd : o.dst = some da) (hda : da < a'.tmps.size) (hS : As cs R base ia st da T Z CP f a' w')
    (hR : ∀ k, R k w' → R k (w'.alloc (.cells Z T))) (hv : V i (.pointer (some ⟨w'.heap.size, 0, none⟩)) (w'.alloc (.cells Z T))) :
    wpOp P ops Q i (fun a'' w2 => G w' w2 ∧ As cs R base ia st da T Z CP (fun j => if j = i then true else f j) a'' w2 ∧ ∃ v, a'' = a'.put o.dst v ∧ V i v w2) a' w' := by
  have hst : f st = false := by
    cases e : f st with
    | false => rfl
    | true =>
      have := (hS.sto e).1
      rw [← h1, hf] at this
      cases this
  refine wpOp_value _ hi hw hr ⟨hG, ⟨hS.seq.quiet hn hR, Nat.le_trans hS.siz (by simp), fun _ => ⟨w'.heap.size, ?_, hS.siz, by simp, fun _ => heap_alloc_new w' _, fun e => ?_⟩, fun h => ?_⟩, _, rfl, hv⟩
  · rw [hd]
    simp [Act.put, hda]
  · have : f st = true := by simpa [Ne.symm h2] using e
    rw [hst] at this
    cases this
  · have h' : f st = true := by simpa [Ne.symm h2] using h
    rw [hst] at h'
    cases h'
theorem as_store (hi : ops[i]? = some o) (hw : Region.wanted o (yielded ops a'.tmps) = true) (hn : i ∉ cs) (h2 : i = st) (hf : f i = false) (ha : f ia = true) (hc : ∀ c ∈ cs, f c = true) (hd : o.dst = none) (hS : As cs R base ia st da T Z CP f a' w')
    (h : ∀ b, a'.tmps.getD da undef = .pointer (some ⟨b, 0, none⟩) → base ≤ b → b < w'.heap.size → w'.heap[b]? = some (.cells Z T (0, 0)) → ∃ w2 C, (execOp a'.eval o).run P w' = .ok .skip w2 ∧ G w' w2 ∧ w2.heap.size = w'.heap.size ∧ w2.heap[b]? = some (.cells C T (0, 0)) ∧ CP C w2 ∧ (∀ k, R k w' → R k w2) ∧ V i undef w2) :
    wpOp P ops Q i (fun a'' w2 => G w' w2 ∧ As cs R base ia st da T Z CP (fun j => if j = i then true else f j) a'' w2 ∧ ∃ v, a'' = a'.put o.dst v ∧ V i v w2) a' w' := by
  obtain ⟨b, k1, k2, k3, k4, _⟩ := hS.alc ha
  obtain ⟨w2, C, r1, r2, r3, r4, r5, r6, r7⟩ := h b k1 k2 k3 (k4 (by rw [← h2]; exact hf))
  refine wpOp_skip hi hw r1 ⟨r2, ⟨hS.seq.quiet hn r6, by rw [r3]; exact hS.siz, fun _ => ⟨b, by rw [hd]; exact k1, k2, by rw [r3]; exact k3, fun e => ?_, fun _ => ⟨C, r4, r5⟩⟩, fun _ => ⟨by simp [ha], fun c hc' => by simp [hc c hc']⟩⟩, undef, rfl, r7⟩
  rw [h2] at e
  simp at e
/-- When all have been. -/
theorem As.done (hS : As cs R base ia st da T Z CP f a' w') (ha : f ia = true) (hs : f st = true) (hc : ∀ c ∈ cs, f c = true) : R cs.length w' ∧ ∃ b C, a'.tmps.getD da undef = .pointer (some ⟨b, 0, none⟩) ∧ base ≤ b ∧ b < w'.heap.size ∧ w'.heap[b]? = some (.cells C T (0, 0)) ∧ CP C w' := by
  obtain ⟨b, k1, k2, k3, _, k5⟩ := hS.alc ha
  obtain ⟨C, k6, k7⟩ := k5 hs
  exact ⟨hS.seq.done hc, b, C, k1, k2, k3, k6, k7⟩
end
/-- A whole struct is set. -/
theorem st9_run {o : Oper} {a' : Act} {w' : World} (t u : Tmp) (b : Nat) (x0 x1 x2 x3 x4 x5 x6 x7 x8 : Value) (n0 n1 n2 n5 n6 n7 : Int) (q3 q4 q8 : Option Addr) (l3 c3 l4 c4 l8 c8 : Nat) (ho : o.op = .store 49 (.tmp t) (.tmp u)) (h0 : a'.tmps.getD t undef = .pointer (some ⟨b, 0, none⟩)) (h1 : a'.tmps.getD u undef = .agg #[.int .i64 n0, .int .i64 n1, .int .i64 n2, .slice q3 l3 c3, .slice q4 l4 c4, .int .i64 n5, .int .i64 n6, .int .i64 n7, .slice q8 l8 c8]) (hc : w'.heap[b]? = some (.cells #[x0, x1, x2, x3, x4, x5, x6, x7, x8] 49 (0, 0))) :
    (execOp a'.eval o).run Tryz.prog w' = .ok .skip (((((((((w'.setCell ⟨b, 0, none⟩ (.int .i64 n0)).setCell ⟨b, 1, none⟩ (.int .i64 n1)).setCell ⟨b, 2, none⟩ (.int .i64 n2)).setCell ⟨b, 3, none⟩ (.slice q3 l3 c3)).setCell ⟨b, 4, none⟩ (.slice q4 l4 c4)).setCell ⟨b, 5, none⟩ (.int .i64 n5)).setCell ⟨b, 6, none⟩ (.int .i64 n6)).setCell ⟨b, 7, none⟩ (.int .i64 n7)).setCell ⟨b, 8, none⟩ (.slice q8 l8 c8)) := by
  have he : a'.eval (.tmp t) = .pointer (some ⟨b, 0, none⟩) := h0
  have hg : a'.eval (.tmp u) = .agg #[.int .i64 n0, .int .i64 n1, .int .i64 n2, .slice q3 l3 c3, .slice q4 l4 c4, .int .i64 n5, .int .i64 n6, .int .i64 n7, .slice q8 l8 c8] := h1
  have f0 : ∀ i, w'.frozen? ⟨b, i, none⟩ = false := fun i => frozen_of_row _ _ _ _ _ hc
  have yc0 : w'.cell? ⟨b, 0, none⟩ = some x0 := by rw [cell_of_row _ _ _ _ _ _ hc]; rfl
  have zq0 := f0 0
  have yc1 : w'.cell? ⟨b, 1, none⟩ = some x1 := by rw [cell_of_row _ _ _ _ _ _ hc]; rfl
  have zq1 := f0 1
  have yc2 : w'.cell? ⟨b, 2, none⟩ = some x2 := by rw [cell_of_row _ _ _ _ _ _ hc]; rfl
  have zq2 := f0 2
  have yc3 : w'.cell? ⟨b, 3, none⟩ = some x3 := by rw [cell_of_row _ _ _ _ _ _ hc]; rfl
  have zq3 := f0 3
  have yc4 : w'.cell? ⟨b, 4, none⟩ = some x4 := by rw [cell_of_row _ _ _ _ _ _ hc]; rfl
  have zq4 := f0 4
  have yc5 : w'.cell? ⟨b, 5, none⟩ = some x5 := by rw [cell_of_row _ _ _ _ _ _ hc]; rfl
  have zq5 := f0 5
  have yc6 : w'.cell? ⟨b, 6, none⟩ = some x6 := by rw [cell_of_row _ _ _ _ _ _ hc]; rfl
  have zq6 := f0 6
  have yc7 : w'.cell? ⟨b, 7, none⟩ = some x7 := by rw [cell_of_row _ _ _ _ _ _ hc]; rfl
  have zq7 := f0 7
  have yc8 : w'.cell? ⟨b, 8, none⟩ = some x8 := by rw [cell_of_row _ _ _ _ _ _ hc]; rfl
  have zq8 := f0 8
  unfold execOp
  simp only [ho]
  generalize a'.eval = r at *
  simp [he, hg, go_sem, yc0, yc1, yc2, yc3, yc4, yc5, yc6, yc7, yc8, zq0, zq1, zq2, zq3, zq4, zq5, zq6, zq7, zq8]
end Go.Proofs.YtfjdaafckiefdaaGreatDoor.S15
