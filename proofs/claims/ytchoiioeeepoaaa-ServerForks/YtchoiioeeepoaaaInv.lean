/- A region that draws its order, by what each of its operations leaves behind: each fact is kept by every later step, so no order need be walked. -/
import Derived.Test.YtchoiioeeepoaaaLaws2
namespace Go.Proofs.Ytchoiioeeepoaaa
open Go.RowKit
/-- Every operation that binds lies ahead; each temporary is set once, within the frame. -/
def regionOk (ops : Array Oper) (n : Nat) : Bool :=
  (List.range ops.size).all fun i => match ops[i]? with
    | none => true
    | some o => (o.after.all fun e => !Region.binds .any e || decide (e.on < i)) && (match o.dst with
      | none => true
      | some d => decide (d < n) && (List.range ops.size).all fun j => decide (j = i) || !((ops[j]?).bind (·.dst) == some d))
section
variable {P : Program} {ops : Array Oper} {Q : Exit → Act → World → Prop}
/-- What stands behind some of the operations. -/
structure RInv (ops : Array Oper) (V : Nat → Value → World → Prop) (G : World → World → Prop) (a : Act) (w : World) (a' : Act) (w' : World) : Prop where
  size : a'.tmps.size = a.tmps.size
  defers : a'.defers = a.defers
  grow : G w w'
  old : ∀ t, (∀ i : Nat, (ops[i]?).bind (·.dst) ≠ some t) → a'.tmps.getD t undef = a.tmps.getD t undef
theorem replicate_false (m j : Nat) : (Array.replicate m false).getD j false = false := by
  rcases Nat.lt_or_ge j m with h | h <;> simp [h]
theorem getD_put (a : Act) (dst : Option Tmp) (v : Value) (t : Tmp) (h : dst ≠ some t) : (a.put dst v).tmps.getD t undef = a.tmps.getD t undef := by
  cases dst with
  | none => rfl
  | some d =>
    have hd : d ≠ t := fun e => h (by rw [e])
    simp [Act.put, hd]
theorem getD_put_same (a : Act) (d : Tmp) (v : Value) (h : d < a.tmps.size) : (a.put (some d) v).tmps.getD d undef = v := by
  simp [Act.put, h]
theorem size_put (a : Act) (dst : Option Tmp) (v : Value) : (a.put dst v).tmps.size = a.tmps.size := by cases dst <;> simp [Act.put]
theorem defers_put (a : Act) (dst : Option Tmp) (v : Value) : (a.put dst v).defers = a.defers := by cases dst <;> rfl
theorem regionOk_spec {n : Nat} (h : regionOk ops n = true) {i : Nat} {o : Oper} (hi : ops[i]? = some o) :
    (∀ e ∈ o.after, Region.binds .any e = true → e.on < i) ∧ ∀ d, o.dst = some d → d < n ∧ ∀ j : Nat, j ≠ i → (ops[j]?).bind (·.dst) ≠ some d := by
  have hlt : i < ops.size := (Array.getElem?_eq_some_iff.1 hi).1
  have h1 := List.all_eq_true.1 h i (List.mem_range.2 hlt)
  simp only [hi, Bool.and_eq_true] at h1
  refine ⟨fun e he hb => ?_, fun d hd => ?_⟩
  · have := Array.all_eq_true_iff_forall_mem.1 h1.1 e he
    simpa [hb] using this
  · have h2 := h1.2
    simp only [hd, Bool.and_eq_true, decide_eq_true_eq] at h2
    refine ⟨h2.1, fun j hj e => ?_⟩
    have hjlt : j < ops.size := by
      cases ho : ops[j]? with
      | none => simp [ho] at e
      | some oj => exact (Array.getElem?_eq_some_iff.1 ho).1
    have := List.all_eq_true.1 h2.2 j (List.mem_range.2 hjlt)
    simp [hj, e] at this
theorem wp_region_inv {id : Nat} {a : Act} {w : World} (V : Nat → Value → World → Prop) (G : World → World → Prop) (hm : P.follows .mixedOrders = true)
    (hG0 : G w { w with drawn := w.drawn + 1 }) (hGt : ∀ x y z, G x y → G y z → G x z) (hV : ∀ i v x y, V i v x → G x y → V i v y)
    (hok : regionOk ops a.tmps.size = true)
    (hstep : ∀ i o a' w', ops[i]? = some o → RInv ops V G a w a' w' →
      (∀ e ∈ o.after, Region.binds .any e = true → ∀ d, (ops[e.on]?).bind (·.dst) = some d → V e.on (a'.tmps.getD d undef) w') →
      wpOp P ops Q i (fun a'' w'' => G w' w'' ∧ ∃ v, a'' = a'.put o.dst v ∧ V i v w'') a' w')
    (hend : ∀ a' w', RInv ops V G a w a' w' → (∀ i d, (ops[i]?).bind (·.dst) = some d → V i (a'.tmps.getD d undef) w') → Q .normal a' w') : (Code.region id ops true).wp P Q a w := by
  refine wp_region_any hm ?_
  have key : ∀ (fuel : Nat) (listed : Array Bool) (a' : Act) (w' : World), listed.size = ops.size → listed.toList.count false ≤ fuel → RInv ops V G a w a' w' →
      (∀ i d, listed.getD i false = true → (ops[i]?).bind (·.dst) = some d → V i (a'.tmps.getD d undef) w') → wpAny P .any ops Q fuel listed a' w' := by
    intro fuel
    induction fuel with
    | zero =>
      intro listed a' w' hs hc inv hd
      have hnone : ∀ i, i < ops.size → listed.getD i false = true := fun i hi => by
        have h0 : false ∉ listed.toList := List.count_eq_zero.1 (Nat.le_zero.1 hc)
        have hi' : i < listed.size := by omega
        cases hb : listed[i] with
        | true => simp [hi', hb]
        | false => exact absurd (Array.getElem_mem_toList hi') (by rw [hb]; exact h0)
      refine ⟨?_, hend a' w' inv (fun i d hid => hd i d (hnone i ?_) hid)⟩
      · apply List.eq_nil_iff_forall_not_mem.2
        intro j hj
        obtain ⟨h1, o, ho, _⟩ := mem_ready.1 hj
        have := hnone j (Array.getElem?_eq_some_iff.1 ho).1
        have hj' : j < listed.size := by have := (Array.getElem?_eq_some_iff.1 ho).1; omega
        simp [hj'] at h1 this
        rw [h1] at this
        cases this
      · cases ho : ops[i]? with
        | none => simp [ho] at hid
        | some o => exact (Array.getElem?_eq_some_iff.1 ho).1
    | succ fuel ih =>
      intro listed a' w' hs hc inv hd
      refine ⟨fun hnil => ?_, fun i hi => ?_⟩
      · have hall : ∀ n i, i < n → i < ops.size → listed.getD i false = true := by
          intro n
          induction n with
          | zero => intro i hi; omega
          | succ n ihn =>
            intro i hi hlt
            have hil : i < listed.size := by omega
            cases hb : listed[i] with
            | true => simp [hil, hb]
            | false =>
              exfalso
              obtain ⟨o, ho⟩ : ∃ o, ops[i]? = some o := ⟨_, Array.getElem?_eq_getElem hlt⟩
              have : i ∈ Region.ready .any ops listed := mem_ready.2 ⟨by simp [hil, hb], o, ho, fun e he hbd => by
                have h3 := (regionOk_spec hok ho).1 e he hbd
                exact ihn e.on (by omega) (by omega)⟩
              rw [hnil] at this
              cases this
        refine hend a' w' inv (fun i d hid => hd i d (hall (i + 1) i (by omega) ?_) hid)
        cases ho : ops[i]? with
        | none => simp [ho] at hid
        | some o => exact (Array.getElem?_eq_some_iff.1 ho).1
      · obtain ⟨hun, o, ho, hall⟩ := mem_ready.1 hi
        have hlt : i < ops.size := (Array.getElem?_eq_some_iff.1 ho).1
        have hil : i < listed.size := by omega
        refine wpOp_mono (fun a'' w'' hk => ?_) (hstep i o a' w' ho inv (fun e he hb d hed => hd e.on d (hall e he hb) hed))
        obtain ⟨hg, v, rfl, hv⟩ := hk
        refine ih _ _ _ (by simpa using hs) ?_ ⟨by rw [size_put]; exact inv.size, by rw [defers_put]; exact inv.defers, hGt _ _ _ inv.grow hg, fun t ht => ?_⟩ (fun j d hj hjd => ?_)
        · have hf : listed.toList[i]? = some false := by
            simp [hil] at hun ⊢
            exact hun
          rw [Array.toList_setIfInBounds]
          have hcnt := List.count_set (l := listed.toList) (i := i) (a := true) (b := false) (by simpa using hil)
          have hget : listed.toList[i]'(by simpa using hil) = false := (List.getElem?_eq_some_iff.1 hf).2
          rw [hcnt, hget, if_pos (by rfl), if_neg (by decide)]
          omega
        · rw [getD_put _ _ _ _ (fun e => ht i (by rw [ho]; exact e))]
          exact inv.old t ht
        · by_cases hji : j = i
          · subst hji
            have hod : o.dst = some d := by simpa [ho] using hjd
            rw [hod, getD_put_same _ _ _ (by rw [inv.size]; exact ((regionOk_spec hok ho).2 d hod).1)]
            exact hv
          · rw [getD_put _ _ _ _ (fun e => ((regionOk_spec hok ho).2 d e).2 j hji hjd)]
            rw [getD_set_ne false (Ne.symm hji)] at hj
            exact hV _ _ _ _ (hd j d hj hjd) hg
  refine key ops.size _ a _ (by simp) ?_ ⟨rfl, rfl, hG0, fun _ _ => rfl⟩ (fun i d hi _ => by rw [replicate_false] at hi; cases hi)
  exact Nat.le_trans List.count_le_length (by simp)
end
end Go.Proofs.Ytchoiioeeepoaaa
