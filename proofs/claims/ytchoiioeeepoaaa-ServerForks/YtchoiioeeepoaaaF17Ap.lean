/- Regions that draw their order and append to rows of their own: what one operation has left behind stands till another one uses it up. -/
import Derived.Test.YtchoiioeeepoaaaSt2
import Derived.Test.YtchoiioeeepoaaaC8St
import Derived.Test.YtchoiioeeepoaaaF17D4
namespace Go.Proofs.Ytchoiioeeepoaaa.F17
open Go.RowKit C8 E9
/-- What an operation has left behind in a slot, till another one uses it up. -/
structure Us where
  fr : Nat
  up : Option Nat
  da : Tmp
  af : Option Nat
  P : Value → World → Prop
structure Ap (N : Nat) (us : List Us) (f : Nat → Bool) (a : Act) (w : World) : Prop where
  siz : N ≤ w.heap.size
  use : ∀ u ∈ us, f u.fr = true → (∀ k, u.up = some k → f k = false) → u.P (a.tmps.getD u.da undef) w
  late : ∀ u ∈ us, f u.fr = true → ∀ k, u.af = some k → f k = true
def Upk (us : List Us) : Prop := ∀ u ∈ us, ∀ v x y, u.P v x → Below x.heap.size x y → u.P v y
section
variable {P : Program} {ops : Array Oper} {Q : Exit → Act → World → Prop} {V : Nat → Value → World → Prop} {N : Nat} {us : List Us} {f : Nat → Bool} {i : Nat} {o : Oper} {a' : Act} {w' : World}
theorem Ap.start {a : Act} {w : World} (h : N ≤ w.heap.size) : Ap N us (fun _ => false) a w := ⟨h, fun _ _ e => by simp at e, fun _ _ e => by simp at e⟩
theorem ap_value (v : Value) (hi : ops[i]? = some o) (hw : Region.wanted o (yielded ops a'.tmps) = true) (hr : (execOp a'.eval o).run P w' = .ok (.value v) w') (h1 : ∀ u ∈ us, i ≠ u.fr ∧ o.dst ≠ some u.da) (hS : Ap N us f a' w') (hv : V i v w') :
    wpOp P ops Q i (fun a'' w2 => Below N w' w2 ∧ Ap N us (fun j => if j = i then true else f j) a'' w2 ∧ ∃ v, a'' = a'.put o.dst v ∧ V i v w2) a' w' :=
  wpOp_value v hi hw hr ⟨Below.refl _ _, ⟨hS.siz, fun u hu h2 h3 => by
    have q1 : f u.fr = true := by simpa [Ne.symm (h1 u hu).1] using h2
    have q2 : ∀ k, u.up = some k → f k = false := fun k hk => by
      have := h3 k hk
      by_cases e : k = i
      · simp [e] at this
      · simpa [e] using this
    rw [getD_put _ _ _ _ (h1 u hu).2]
    exact hS.use u hu q1 q2, fun u hu h2 k hk => by
    have := hS.late u hu (by simpa [Ne.symm (h1 u hu).1] using h2) k hk
    simp [this]⟩, v, rfl, hv⟩
/-- A call that leaves what was as it was, and something behind. -/
theorem ap_quiet (K : Upk us) (fn : FuncId) (args : Array Value) (hi : ops[i]? = some o) (hw : Region.wanted o (yielded ops a'.tmps) = true) (hr : (execOp a'.eval o).run P w' = .ok (.enter fn args) w') (d : Tmp) (hd : o.dst = some d) (hds : d < a'.tmps.size) (h1 : ∀ u ∈ us, i = u.fr ∧ u.da = d ∧ u.af = none ∨ i ≠ u.fr ∧ o.dst ≠ some u.da) (hS : Ap N us f a' w')
    (h : Calls P fn args w' fun e w2 => ∃ v, e = .returned v ∧ Below w'.heap.size w' w2 ∧ V i v w2 ∧ ∀ u ∈ us, i = u.fr → u.P v w2) :
    wpOp P ops Q i (fun a'' w2 => Below N w' w2 ∧ Ap N us (fun j => if j = i then true else f j) a'' w2 ∧ ∃ v, a'' = a'.put o.dst v ∧ V i v w2) a' w' := by
  refine wpOp_call fn args hi hw hr (h.mono fun _ w2 ⟨v, he, hb, hv, hn⟩ => ⟨v, he, hb.mono hS.siz, ⟨Nat.le_trans hS.siz hb.size, fun u hu h2 h3 => ?_, fun u hu h2 k hk => ?_⟩, v, rfl, hv⟩)
  rotate_left
  · rcases h1 u hu with ⟨_, _, e3⟩ | ⟨e1, _⟩
    · rw [e3] at hk; cases hk
    · have := hS.late u hu (by simpa [Ne.symm e1] using h2) k hk
      simp [this]
  rcases h1 u hu with ⟨e1, e2, _⟩ | ⟨e1, e2⟩
  · have : (a'.put o.dst v).tmps.getD u.da undef = v := by
      rw [hd, e2]
      simp [Act.put, hds]
    rw [this]
    exact hn u hu e1
  · have q1 : f u.fr = true := by simpa [Ne.symm e1] using h2
    have q2 : ∀ k, u.up = some k → f k = false := fun k hk => by
      have := h3 k hk
      by_cases e : k = i
      · simp [e] at this
      · simpa [e] using this
    rw [getD_put _ _ _ _ e2]
    exact K u hu _ _ _ (hS.use u hu q1 q2) hb
/-- An operation that turns what others have left behind, and uses it up. -/
theorem ap_up {w2 : World} (v : Value) (hi : ops[i]? = some o) (hw : Region.wanted o (yielded ops a'.tmps) = true) (hr : (execOp a'.eval o).run P w' = .ok (.value v) w2) (hb : Below N w' w2) (d : Tmp) (hd : o.dst = some d) (hds : d < a'.tmps.size) (hf : f i = false) (h1 : ∀ u ∈ us, ((∃ k, u.up = some k ∧ (k = i ∨ f k = true)) ∧ u.fr ≠ i) ∨ (u.fr = i ∧ u.da = d ∧ u.P v w2 ∧ ∀ k, u.af = some k → f k = true) ∨ (u.af = some i ∧ u.fr ≠ i)) (hS : Ap N us f a' w') (hv : V i v w2) :
    wpOp P ops Q i (fun a'' w2 => Below N w' w2 ∧ Ap N us (fun j => if j = i then true else f j) a'' w2 ∧ ∃ v, a'' = a'.put o.dst v ∧ V i v w2) a' w' := by
  refine wpOp_value v hi hw hr ⟨hb, ⟨Nat.le_trans hS.siz hb.size, fun u hu h2 h3 => ?_, fun u hu h2 k hk => ?_⟩, v, rfl, hv⟩
  · rcases h1 u hu with ⟨⟨k, e, e'⟩, _⟩ | ⟨_, e2, e3, _⟩ | ⟨e, e1⟩
    · have := h3 k e
      rcases e' with rfl | e'
      · simp at this
      · simp [e'] at this
    · have : (a'.put o.dst v).tmps.getD u.da undef = v := by
        rw [hd, e2]
        simp [Act.put, hds]
      rw [this]
      exact e3
    · have := hS.late u hu (by simpa [e1] using h2) i e
      rw [hf] at this
      cases this
  · rcases h1 u hu with ⟨_, e1⟩ | ⟨_, _, _, e4⟩ | ⟨_, e1⟩
    · have := hS.late u hu (by simpa [e1] using h2) k hk
      simp [this]
    · simp [e4 k hk]
    · have := hS.late u hu (by simpa [e1] using h2) k hk
      simp [this]
/-- Bytes are appended to a row of one's own. -/
theorem ap_append {st xt d : Tmp} (hi : ops[i]? = some o) (hw : Region.wanted o (yielded ops a'.tmps) = true) (ho : o.op = .call { callee := .builtin .append, args := #[.tmp st, .tmp xt], argTypes := #[32, 32] }) (v sv : Value) (n : Nat) (l news : List Nat) (hs : a'.tmps.getD st undef = v) (hx : a'.tmps.getD xt undef = sv) (hown : w'.ownsRow N 5 1 v n (ints .u8 l)) (hsv : Src w' sv news) (hn : n + news.length ≤ 100000) (hne : news ≠ [])
    (hd : o.dst = some d) (hds : d < a'.tmps.size) (hf : f i = false) (hS : Ap N us f a' w') (h1 : ∀ v2 w2, w2.ownsRow N 5 1 v2 (n + news.length) (ints .u8 (l ++ news)) → (∀ u ∈ us, ((∃ k, u.up = some k ∧ (k = i ∨ f k = true)) ∧ u.fr ≠ i) ∨ (u.fr = i ∧ u.da = d ∧ u.P v2 w2 ∧ ∀ k, u.af = some k → f k = true) ∨ (u.af = some i ∧ u.fr ≠ i)) ∧ V i v2 w2) :
    wpOp Try.prog ops Q i (fun a'' w2 => Below N w' w2 ∧ Ap N us (fun j => if j = i then true else f j) a'' w2 ∧ ∃ v, a'' = a'.put o.dst v ∧ V i v w2) a' w' := by
  have key : ∃ v2 w2, (execOp a'.eval o).run Try.prog w' = .ok (.value v2) w2 ∧ Below N w' w2 ∧ w2.ownsRow N 5 1 v2 (n + news.length) (ints .u8 (l ++ news)) := by
    obtain ⟨j, hj, hsz, hby, hz⟩ := info5e
    have e0 : a'.eval (.tmp st) = v := hs
    have e1 : a'.eval (.tmp xt) = sv := hx
    obtain ⟨hb, ⟨rfl, rfl⟩ | ⟨ad, c, rfl, rfl⟩ | ⟨b, of, c, rfl, hc, hr⟩⟩ := hsv
    · exact absurd rfl hne
    · exact absurd rfl hne
    · obtain ⟨v2, w2, hrun, r1, r2, _⟩ := run_append_own (P := Try.prog) w' N 32 o.type 5 j _ 1 1 Try.underlying32 hj hz hsz hby rfl (by decide) v n (ints .u8 l) hown ⟨b, of, none⟩ news.length c (ints .u8 news) (by rw [ints_length]; omega) (fun j u hu => by rw [Addr.add_mid]; exact hr j u hu) (fun u hu => by obtain ⟨q, _, rfl⟩ := List.mem_map.1 hu; rfl) (by unfold maxLen; omega) (by omega) hS.siz
      refine ⟨v2, w2, ?_, below_append hown r2 hS.siz, by rw [ints_append]; exact r1⟩
      unfold execOp
      simp only [ho]
      generalize a'.eval = r at *
      simp [resolve, invoke, builtin, e0, e1, hrun, Result.andThen]
  obtain ⟨v2, w2, k1, k2, k3⟩ := key
  obtain ⟨k4, k5⟩ := h1 v2 w2 k3
  exact ap_up v2 hi hw k1 k2 d hd hds hf k4 hS k5
end
theorem all0u {α : Type} {p : α → Prop} : ∀ y ∈ ([] : List α), p y := fun _ hy => by cases hy
theorem allu {α : Type} {x : α} {l : List α} {p : α → Prop} (h : p x) (k : ∀ y ∈ l, p y) : ∀ y ∈ x :: l, p y := fun y hy => by
  rcases List.mem_cons.1 hy with rfl | hy
  · exact h
  · exact k y hy
end Go.Proofs.Ytchoiioeeepoaaa.F17
