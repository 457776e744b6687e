/- Steps of the statements' regions: codes, sums, strings. -/
import Derived.Test.YtnbdadhdpplldabDoorEqualW
import Derived.Test.YtnbdadhdpplldabDoorRefSum
namespace Go.Proofs.YtnbdadhdpplldabDoor
open Go.RowKit
/-- A slice that reads as these bytes. -/
def BV (l : List Nat) (v : Value) (w : World) : Prop := BytesAt w v l
theorem BV.kept {l : List Nat} {v : Value} {w w' : World} (h : BV l v w) (hb : Below w.heap.size w w') : BV l v w' := bytesAt_below h hb
/-- A slice of these values. -/
def PartsV (vs : List Value) (v : Value) (w : World) : Prop := ∃ g, v = .slice (some ⟨g, 0, none⟩) vs.length vs.length ∧ w.rangeAt g 0 vs
theorem PartsV.kept {vs : List Value} {v : Value} {w w' : World} (h : PartsV vs v w) (hb : Below w.heap.size w w') : PartsV vs v w' := by
  obtain ⟨g, rfl, h1⟩ := h
  exact ⟨g, rfl, rangeAt_below hb h1⟩
theorem bytesAt_slice {w : World} {v : Value} {l : List Nat} (h : BytesAt w v l) : ∃ p c, v = .slice p l.length c := by
  rcases h.2 with ⟨p, c, rfl, rfl⟩ | ⟨b, o, c, rfl, _⟩
  · exact ⟨p, c, rfl⟩
  · exact ⟨_, c, rfl⟩
theorem code_bytes {w : World} {g : Nat} {l : List Nat} (hs : ∀ x ∈ l, x < 256) (hl : l.length = 32) (h : w.heap[g]? = some (.cells (arr .u8 l) 5 (0, 0))) : BytesAt w (.slice (some ⟨g, 0, none⟩) 32 32) l :=
  ⟨hs, .inr ⟨g, 0, 32, by rw [hl], by omega, rangeAt_of_row h⟩⟩
theorem code_step {w' : World} {kv pv : Value} {key : List Nat} {vs : List Value} (ls : List (List Nat)) (hT : Tab w') (hk : BytesAt w' kv key) (hp : PartsV vs pv w') (hel : ∀ (i : Nat) (l : List Nat), ls[i]? = some l → ∃ u, vs[i]? = some u ∧ BytesAt w' u l) (hlen : ls.length = vs.length)
    (hkn : key.length ≤ 100000) (hlm : ls.length ≤ 1000) (hln : ls.flatten.length ≤ 1000000) :
    Calls Tryd.prog 11 #[kv, pv] w' fun e w2 => ∃ v, e = .returned v ∧ Below w'.heap.size w' w2 ∧ BV (Mk.code key ls.flatten) v w2 := by
  obtain ⟨p, c, rfl⟩ := bytesAt_slice hk
  obtain ⟨g, rfl, hr⟩ := hp
  rw [← hlen]
  refine (code_any key ls p key.length c g 0 ls.length vs w' hk hT (by omega) hr hel hlm (by omega)).mono ?_
  rintro e w2 ⟨b, rfl, _, h2, h3⟩
  exact ⟨_, rfl, h3, code_bytes (Mk.code_small _ _) (Mk.code_length _ _) h2⟩
theorem code1_step {w' : World} {kv pv y : Value} {key m : List Nat} (hT : Tab w') (hk : BytesAt w' kv key) (hp : PartsV [y] pv w') (hy : BytesAt w' y m) (hkn : key.length ≤ 100000) (hmn : m.length ≤ 1000000) :
    Calls Tryd.prog 11 #[kv, pv] w' fun e w2 => ∃ v, e = .returned v ∧ Below w'.heap.size w' w2 ∧ BV (Mk.code key m) v w2 := by
  have h := code_step [m] hT hk hp (fun i l hl => by
    match i with
    | 0 => simp at hl; subst hl; exact ⟨_, rfl, hy⟩
    | i + 1 => simp at hl) rfl hkn (by simp) (by simpa using hmn)
  simpa using h
theorem rsum_step {w' : World} {v : Value} {m : List Nat} (h : BytesAt w' v m) (h0 : m ≠ []) (hm : m.length ≤ 1000) :
    Calls Tryd.prog 16 #[v] w' fun e w2 => ∃ v, e = .returned v ∧ Below w'.heap.size w' w2 ∧ BV (Sp.sum m) v w2 := by
  rcases h.2 with ⟨p, c, rfl, rfl⟩ | ⟨b, o, c, rfl, hc, hr⟩
  · exact absurd rfl h0
  · refine (rsum_any m (some ⟨b, o, none⟩) c w' (.inr ⟨⟨b, o, none⟩, c, rfl, fun j u hu => by rw [Addr.add_mid]; exact hr j u hu⟩) h.1 hm).mono ?_
    rintro e w2 ⟨v, rfl, h1, h2⟩
    obtain ⟨g, c, rfl, hg, hgl, hr⟩ := own_cell h1 (by decide)
    refine ⟨_, rfl, h2, Mk.sum_small _, ?_⟩
    obtain ⟨_, ⟨he, h0⟩ | ⟨g', cap, cur, he, _, _, hnc, _⟩⟩ := h1
    · omega
    · cases he
      exact .inr ⟨g, 0, c, by rw [sum_length], by rw [sum_length]; exact hnc, hr⟩
theorem build1_run {o : Oper} {a' : Act} {w' : World} {p : Option Addr} {n c : Nat} (t : Tmp) (ho : o.op = .buildSlice 37 1 #[(0, .tmp t)]) (h0 : a'.tmps.getD t undef = .slice p n c) :
    (execOp a'.eval o).run Tryd.prog w' = .ok (.value (.slice (some ⟨w'.heap.size, 0, none⟩) 1 1)) (w'.alloc (.cells #[.slice p n c] 22)) := by
  have he : a'.eval (.tmp t) = .slice p n c := h0
  unfold execOp
  simp only [ho]
  generalize a'.eval = r at *
  simp [he, go_sem]
theorem build2_run {o : Oper} {a' : Act} {w' : World} {p q : Option Addr} {n c m d : Nat} (t u : Tmp) (ho : o.op = .buildSlice 37 2 #[(0, .tmp t), (1, .tmp u)]) (h0 : a'.tmps.getD t undef = .slice p n c) (h1 : a'.tmps.getD u undef = .slice q m d) :
    (execOp a'.eval o).run Tryd.prog w' = .ok (.value (.slice (some ⟨w'.heap.size, 0, none⟩) 2 2)) (w'.alloc (.cells #[.slice p n c, .slice q m d] 22)) := by
  have he : a'.eval (.tmp t) = .slice p n c := h0
  have hf : a'.eval (.tmp u) = .slice q m d := h1
  unfold execOp
  simp only [ho]
  generalize a'.eval = r at *
  simp [he, hf, go_sem]
theorem eq_run {o : Oper} {a' : Act} {w' : World} {s : ByteArray} (t u : Tmp) (ho : o.op = .binOp .eql 9 (.tmp t) (.tmp u) 9) (h0 : a'.tmps.getD t undef = .string s) (h1 : a'.tmps.getD u undef = .string s) :
    (execOp a'.eval o).run Tryd.prog w' = .ok (.value (.bool true)) w' := by
  unfold execOp
  simp only [ho, Act.eval, h0, h1]
  simp [go_sem]
namespace Mk
theorem fill_short (key : List Nat) : fill (short key) = fill key := by
  unfold fill
  have h : short (short key) = short key := by
    have := short_le key
    unfold short at this ⊢
    rw [if_neg (by omega)]
  rw [h]
theorem code_short (key m : List Nat) : code (short key) m = code key m := by
  unfold code
  rw [fill_short]
theorem code_long {key : List Nat} (h : 64 < key.length) (m : List Nat) : code (Sp.sum key) m = code key m := by
  rw [← code_short key m, show short key = Sp.sum key from by unfold short; rw [if_pos h]]
end Mk
end Go.Proofs.YtnbdadhdpplldabDoor
