/- A region that draws its order, and whose last operation waits for all the others: what each of the others leaves behind is kept by the others alone; the last one may change what they read. -/
import Derived.Test.YtfjdaafckiefdaaGreatDoorInv
namespace Go.Proofs.YtfjdaafckiefdaaGreatDoor
open Go.RowKit
section
variable {P : Program} {ops : Array Oper} {Q : Exit → Act → World → Prop} {V : Nat → Value → World → Prop} {G : World → World → Prop}
def waits (o : Oper) (j : Nat) : Bool := o.after.any fun e => Region.binds .any e && e.on == j
def lastOk (ops : Array Oper) (n : Nat) : Bool := decide (ops.size = n + 1) && (match ops[n]? with
  | none => false
  | some o => (List.range n).all fun i => waits o i)
theorem wp_region_last {id : Nat} {a : Act} {w : World} (n : Nat) (V : Nat → Value → World → Prop) (G : World → World → Prop) (hm : P.follows .mixedOrders = true)
    (hG0 : G w { w with drawn := w.drawn + 1 }) (hGt : ∀ x y z, G x y → G y z → G x z) (hV : ∀ i v x y, V i v x → G x y → V i v y)
    (hok : regionOk ops a.tmps.size = true) (hlast : lastOk ops n = true)
    (hstep : ∀ i o a' w', i < n → ops[i]? = some o → RInv ops V G a w a' w' →
      (∀ e ∈ o.after, Region.binds .any e = true → ∀ d, (ops[e.on]?).bind (·.dst) = some d → V e.on (a'.tmps.getD d undef) w') →
      wpOp P ops Q i (fun a'' w'' => G w' w'' ∧ ∃ v, a'' = a'.put o.dst v ∧ V i v w'') a' w')
    (hend : ∀ a' w', RInv ops V G a w a' w' → (∀ i d, i < n → (ops[i]?).bind (·.dst) = some d → V i (a'.tmps.getD d undef) w') → wpOp P ops Q n (fun a'' w'' => Q .normal a'' w'') a' w') : (Code.region id ops true).wp P Q a w := by
  obtain ⟨hsz, hw⟩ : ops.size = n + 1 ∧ (match ops[n]? with
      | none => false
      | some o => (List.range n).all fun i => waits o i) = true := by
    have := hlast
    unfold lastOk at this
    rw [Bool.and_eq_true] at this
    exact ⟨of_decide_eq_true this.1, this.2⟩
  refine wp_region_any hm ?_
  have key : ∀ (fuel : Nat) (listed : Array Bool) (a' : Act) (w' : World), listed.size = ops.size → listed.toList.count false ≤ fuel → listed.getD n false = false → RInv ops V G a w a' w' →
      (∀ i d, listed.getD i false = true → (ops[i]?).bind (·.dst) = some d → V i (a'.tmps.getD d undef) w') → wpAny P .any ops Q fuel listed a' w' := by
    intro fuel
    induction fuel with
    | zero =>
      intro listed a' w' hs hc hn inv hd
      exfalso
      have h0 : false ∉ listed.toList := List.count_eq_zero.1 (Nat.le_zero.1 hc)
      have hi' : n < listed.size := by omega
      apply h0
      have : listed[n] = false := by simpa [hi'] using hn
      rw [← this]
      exact Array.getElem_mem_toList hi'
    | succ fuel ih =>
      intro listed a' w' hs hc hn inv hd
      refine ⟨fun hnil => ?_, fun i hi => ?_⟩
      · exfalso
        have hall : ∀ m i, i < m → i < ops.size → listed.getD i false = true := by
          intro m
          induction m with
          | zero => intro i hi; omega
          | succ m ihn =>
            intro i hi hlt
            have hil : i < listed.size := by omega
            cases hb : listed[i] with
            | true => simp [hil, hb]
            | false =>
              exfalso
              obtain ⟨o, ho⟩ : ∃ o, ops[i]? = some o := ⟨_, Array.getElem?_eq_getElem hlt⟩
              have : i ∈ Region.ready .any ops listed := mem_ready.2 ⟨by simp [hil, hb], o, ho, fun e he hbd => by
                have h3 := (regionOk_spec hok ho).1 e he hbd
                exact ihn e.on (by omega) (by omega)⟩
              rw [hnil] at this
              cases this
        have := hall (n + 1) n (by omega) (by omega)
        rw [hn] at this
        cases this
      · obtain ⟨hun, o, ho, hall⟩ := mem_ready.1 hi
        have hlt : i < ops.size := (Array.getElem?_eq_some_iff.1 ho).1
        have hil : i < listed.size := by omega
        by_cases hin : i < n
        · refine wpOp_mono (fun a'' w'' hk => ?_) (hstep i o a' w' hin ho inv (fun e he hb d hed => hd e.on d (hall e he hb) hed))
          obtain ⟨hg, v, rfl, hv⟩ := hk
          refine ih _ _ _ (by simpa using hs) ?_ (by rw [getD_set_ne false (by omega)]; exact hn) ⟨by rw [size_put]; exact inv.size, by rw [defers_put]; exact inv.defers, hGt _ _ _ inv.grow hg, fun t ht => ?_⟩ (fun j d hj hjd => ?_)
          · have hf : listed.toList[i]? = some false := by
              simp [hil] at hun ⊢
              exact hun
            rw [Array.toList_setIfInBounds]
            have hcnt := List.count_set (l := listed.toList) (i := i) (a := true) (b := false) (by simpa using hil)
            have hget : listed.toList[i]'(by simpa using hil) = false := (List.getElem?_eq_some_iff.1 hf).2
            rw [hcnt, hget, if_pos (by rfl), if_neg (by decide)]
            omega
          · rw [getD_put _ _ _ _ (fun e => ht i (by rw [ho]; exact e))]
            exact inv.old t ht
          · by_cases hji : j = i
            · subst hji
              have hod : o.dst = some d := by simpa [ho] using hjd
              rw [hod, getD_put_same _ _ _ (by rw [inv.size]; exact ((regionOk_spec hok ho).2 d hod).1)]
              exact hv
            · rw [getD_put _ _ _ _ (fun e => ((regionOk_spec hok ho).2 d e).2 j hji hjd)]
              rw [getD_set_ne false (Ne.symm hji)] at hj
              exact hV _ _ _ _ (hd j d hj hjd) hg
        · obtain rfl : i = n := by omega
          rw [ho] at hw
          have hdone : ∀ j, j < i → listed.getD j false = true := fun j hj => by
            have h1 := List.all_eq_true.1 hw j (List.mem_range.2 hj)
            obtain ⟨e, he, hb⟩ := Array.any_eq_true'.1 h1
            simp only [Bool.and_eq_true, beq_iff_eq] at hb
            obtain ⟨h2, rfl⟩ := hb
            exact hall e he h2
          have hnone : Region.ready .any ops (listed.setIfInBounds i true) = [] := by
            apply List.eq_nil_iff_forall_not_mem.2
            intro j hj
            obtain ⟨h1, oj, hoj, _⟩ := mem_ready.1 hj
            have hj1 : j < ops.size := (Array.getElem?_eq_some_iff.1 hoj).1
            have hj2 : j < listed.size := by omega
            by_cases hji : j = i
            · subst hji
              simp [hj2] at h1
            · have h3 := hdone j (by omega)
              simp [Ne.symm hji, hj2] at h1 h3
              rw [h1] at h3
              cases h3
          refine wpOp_mono (fun a'' w'' hk => ?_) (hend a' w' inv (fun j d hj hjd => hd j d (hdone j hj) hjd))
          cases fuel with
          | zero => exact ⟨hnone, hk⟩
          | succ f => exact ⟨fun _ => hk, fun j hj => by rw [hnone] at hj; cases hj⟩
  refine key ops.size _ a _ (by simp) ?_ (replicate_false _ _) ⟨rfl, rfl, hG0, fun _ _ => rfl⟩ (fun i d hi _ => by rw [replicate_false] at hi; cases hi)
  exact Nat.le_trans List.count_le_length (by simp)
theorem st_value {i : Nat} {o : Oper} {a' : Act} {w' w'' : World} (v : Value) (hi : ops[i]? = some o) (hw : Region.wanted o (yielded ops a'.tmps) = true)
    (hr : (execOp a'.eval o).run P w' = .ok (.value v) w'') (hg : G w' w'') (hv : V i v w'') : wpOp P ops Q i (fun a'' w2 => G w' w2 ∧ ∃ v, a'' = a'.put o.dst v ∧ V i v w2) a' w' :=
  wpOp_value v hi hw hr ⟨hg, v, rfl, hv⟩
theorem st_call {i : Nat} {o : Oper} {a' : Act} {w' : World} (f : FuncId) (args : Array Value) (hi : ops[i]? = some o) (hw : Region.wanted o (yielded ops a'.tmps) = true)
    (hr : (execOp a'.eval o).run P w' = .ok (.enter f args) w') (h : Calls P f args w' fun e w2 => ∃ v, e = .returned v ∧ G w' w2 ∧ V i v w2) : wpOp P ops Q i (fun a'' w2 => G w' w2 ∧ ∃ v, a'' = a'.put o.dst v ∧ V i v w2) a' w' :=
  wpOp_call f args hi hw hr (h.mono fun _ _ ⟨v, he, hg, hv⟩ => ⟨v, he, hg, v, rfl, hv⟩)
def notDst (ops : Array Oper) (t : Tmp) : Bool := (List.range ops.size).all fun i => !((ops[i]?).bind (·.dst) == some t)
theorem notDst_spec {t : Tmp} (h : notDst ops t = true) (i : Nat) : (ops[i]?).bind (·.dst) ≠ some t := fun e => by
  have hlt : i < ops.size := by
    cases ho : ops[i]? with
    | none => simp [ho] at e
    | some oj => exact (Array.getElem?_eq_some_iff.1 ho).1
  have := List.all_eq_true.1 h i (List.mem_range.2 hlt)
  simp [e] at this
theorem pre_of {o : Oper} {a' : Act} {w' : World} (hpre : ∀ e ∈ o.after, Region.binds .any e = true → ∀ d, (ops[e.on]?).bind (·.dst) = some d → V e.on (a'.tmps.getD d undef) w') (j : Nat) (d : Tmp)
    (h : waits o j = true) (hd : (ops[j]?).bind (·.dst) = some d) : V j (a'.tmps.getD d undef) w' := by
  obtain ⟨e, he, hb⟩ := Array.any_eq_true'.1 h
  simp only [Bool.and_eq_true, beq_iff_eq] at hb
  obtain ⟨h1, rfl⟩ := hb
  exact hpre e he h1 d hd
theorem wanted_of {o : Oper} {a' : Act} (j : Nat) (d : Tmp) (hg : o.guard = some (j, true)) (hd : (ops[j]?).bind (·.dst) = some d) (hv : a'.tmps.getD d undef = .bool true) : Region.wanted o (yielded ops a'.tmps) = true := by
  have hsome : a'.tmps[d]? = some (.bool true) := by
    cases h : a'.tmps[d]? with
    | none => simp [h, undef] at hv
    | some x => simpa [h] using hv
  simp [Region.wanted, hg, yielded, hd, hsome]
theorem wanted_none {o : Oper} {a' : Act} (hg : o.guard = none) : Region.wanted o (yielded ops a'.tmps) = true := by simp [Region.wanted, hg]
end
def IsV (x v : Value) (_ : World) : Prop := v = x
theorem below_trans' (x y z : World) (h1 : Below x.heap.size x y) (h2 : Below y.heap.size y z) : Below x.heap.size x z := h1.trans (h2.mono h1.size)
end Go.Proofs.YtfjdaafckiefdaaGreatDoor
