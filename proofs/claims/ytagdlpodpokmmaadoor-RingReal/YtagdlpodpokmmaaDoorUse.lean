/- A region that draws its order, among whose operations some use up what another one has left behind (an append may write behind its row). -/
import Derived.Test.YtagdlpodpokmmaaDoorLast
namespace Go.Proofs.YtagdlpodpokmmaaDoor
open Go.RowKit
section
variable {P : Program} {ops : Array Oper} {Q : Exit → Act → World → Prop}
/-- What is told of the order holds: who comes behind another one waits for it, or for one that does. -/
def behindOk (ops : Array Oper) (A : Nat → Nat → Bool) : Bool := (List.range ops.size).all fun i => (List.range ops.size).all fun j => !A i j || (match ops[i]? with
  | none => true
  | some o => o.after.any fun e => Region.binds .any e && (e.on == j || (decide (e.on < ops.size) && A e.on j)))
theorem wp_region_use {id : Nat} {a : Act} {w : World} (C : Nat → Option Nat) (A : Nat → Nat → Bool) (V : Nat → Value → World → Prop) (S : Nat → World → World → Prop) (G : World → World → Prop) (hm : P.follows .mixedOrders = true)
    (hG0 : G w { w with drawn := w.drawn + 1 }) (hGt : ∀ x y z, G x y → G y z → G x z) (hSG : ∀ j x y, G w x → S j x y → G x y) (hV : ∀ i j v x y, i < ops.size → j < ops.size → i ≠ j → C i ≠ some j → A i j = false → V i v x → S j x y → V i v y)
    (hok : regionOk ops a.tmps.size = true) (hbeh : behindOk ops A = true)
    (hstep : ∀ i o a' w', ops[i]? = some o → RInv ops V G a w a' w' →
      (∀ e ∈ o.after, Region.binds .any e = true → (C e.on = none ∨ C e.on = some i) → ∀ d, (ops[e.on]?).bind (·.dst) = some d → V e.on (a'.tmps.getD d undef) w') →
      wpOp P ops Q i (fun a'' w'' => S i w' w'' ∧ ∃ v, a'' = a'.put o.dst v ∧ V i v w'') a' w')
    (hend : ∀ a' w', RInv ops V G a w a' w' → (∀ i d, C i = none → (ops[i]?).bind (·.dst) = some d → V i (a'.tmps.getD d undef) w') → Q .normal a' w') : (Code.region id ops true).wp P Q a w := by
  refine wp_region_any hm ?_
  have key : ∀ (fuel : Nat) (listed : Array Bool) (a' : Act) (w' : World), listed.size = ops.size → listed.toList.count false ≤ fuel → (∀ i j, i < ops.size → j < ops.size → listed.getD i false = true → A i j = true → listed.getD j false = true) → RInv ops V G a w a' w' →
      (∀ i d, listed.getD i false = true → (∀ j, C i = some j → listed.getD j false = false) → (ops[i]?).bind (·.dst) = some d → V i (a'.tmps.getD d undef) w') → wpAny P .any ops Q fuel listed a' w' := by
    intro fuel
    induction fuel with
    | zero =>
      intro listed a' w' hs hc hbl inv hd
      have hnone : ∀ i, i < ops.size → listed.getD i false = true := fun i hi => by
        have h0 : false ∉ listed.toList := List.count_eq_zero.1 (Nat.le_zero.1 hc)
        have hi' : i < listed.size := by omega
        cases hb : listed[i] with
        | true => simp [hi', hb]
        | false => exact absurd (Array.getElem_mem_toList hi') (by rw [hb]; exact h0)
      refine ⟨?_, hend a' w' inv (fun i d hci hid => hd i d (hnone i ?_) (fun j hj => by rw [hci] at hj; cases hj) hid)⟩
      · apply List.eq_nil_iff_forall_not_mem.2
        intro j hj
        obtain ⟨h1, o, ho, _⟩ := mem_ready.1 hj
        have := hnone j (Array.getElem?_eq_some_iff.1 ho).1
        have hj' : j < listed.size := by have := (Array.getElem?_eq_some_iff.1 ho).1; omega
        simp [hj'] at h1 this
        rw [h1] at this
        cases this
      · cases ho : ops[i]? with
        | none => simp [ho] at hid
        | some o => exact (Array.getElem?_eq_some_iff.1 ho).1
    | succ fuel ih =>
      intro listed a' w' hs hc hbl inv hd
      refine ⟨fun hnil => ?_, fun i hi => ?_⟩
      · have hall : ∀ n i, i < n → i < ops.size → listed.getD i false = true := by
          intro n
          induction n with
          | zero => intro i hi; omega
          | succ n ihn =>
            intro i hi hlt
            have hil : i < listed.size := by omega
            cases hb : listed[i] with
            | true => simp [hil, hb]
            | false =>
              exfalso
              obtain ⟨o, ho⟩ : ∃ o, ops[i]? = some o := ⟨_, Array.getElem?_eq_getElem hlt⟩
              have : i ∈ Region.ready .any ops listed := mem_ready.2 ⟨by simp [hil, hb], o, ho, fun e he hbd => by
                have h3 := (regionOk_spec hok ho).1 e he hbd
                exact ihn e.on (by omega) (by omega)⟩
              rw [hnil] at this
              cases this
        refine hend a' w' inv (fun i d hci hid => hd i d (hall (i + 1) i (by omega) ?_) (fun j hj => by rw [hci] at hj; cases hj) hid)
        cases ho : ops[i]? with
        | none => simp [ho] at hid
        | some o => exact (Array.getElem?_eq_some_iff.1 ho).1
      · obtain ⟨hun, o, ho, hall⟩ := mem_ready.1 hi
        have hlt : i < ops.size := (Array.getElem?_eq_some_iff.1 ho).1
        have hil : i < listed.size := by omega
        refine wpOp_mono (fun a'' w'' hk => ?_) (hstep i o a' w' ho inv (fun e he hb hce d hed => hd e.on d (hall e he hb) (fun j hj => by
          rcases hce with h1 | h1
          · rw [h1] at hj; cases hj
          · rw [h1] at hj
            obtain rfl := Option.some.inj hj
            simpa [hil] using hun) hed))
        obtain ⟨hg, v, rfl, hv⟩ := hk
        refine ih _ _ _ (by simpa using hs) ?_ ?_ ⟨by rw [size_put]; exact inv.size, by rw [defers_put]; exact inv.defers, hGt _ _ _ inv.grow (hSG _ _ _ inv.grow hg), fun t ht => ?_⟩ (fun j d hj hcj hjd => ?_)
        · have hf : listed.toList[i]? = some false := by
            simp [hil] at hun ⊢
            exact hun
          rw [Array.toList_setIfInBounds]
          have hcnt := List.count_set (l := listed.toList) (i := i) (a := true) (b := false) (by simpa using hil)
          have hget : listed.toList[i]'(by simpa using hil) = false := (List.getElem?_eq_some_iff.1 hf).2
          rw [hcnt, hget, if_pos (by rfl), if_neg (by decide)]
          omega
        · intro x y hx hy hlx hxy
          by_cases hyi : y = i
          · subst hyi; simp [hil]
          rw [getD_set_ne false (Ne.symm hyi)]
          by_cases hxi : x = i
          · subst hxi
            have h1 := List.all_eq_true.1 (List.all_eq_true.1 hbeh x (List.mem_range.2 hx)) y (List.mem_range.2 hy)
            rw [hxy, ho] at h1
            simp only [Bool.not_true, Bool.false_or] at h1
            obtain ⟨e, he, hb⟩ := Array.any_eq_true'.1 h1
            simp only [Bool.and_eq_true, Bool.or_eq_true, beq_iff_eq, decide_eq_true_eq] at hb
            have h2 := hall e he hb.1
            rcases hb.2 with h3 | ⟨h3, h4⟩
            · rw [← h3]; exact h2
            · exact hbl e.on y h3 hy h2 h4
          · rw [getD_set_ne false (Ne.symm hxi)] at hlx
            exact hbl x y hx hy hlx hxy
        · rw [getD_put _ _ _ _ (fun e => ht i (by rw [ho]; exact e))]
          exact inv.old t ht
        · by_cases hji : j = i
          · subst hji
            have hod : o.dst = some d := by simpa [ho] using hjd
            rw [hod, getD_put_same _ _ _ (by rw [inv.size]; exact ((regionOk_spec hok ho).2 d hod).1)]
            exact hv
          · rw [getD_put _ _ _ _ (fun e => ((regionOk_spec hok ho).2 d e).2 j hji hjd)]
            rw [getD_set_ne false (Ne.symm hji)] at hj
            have hci : C j ≠ some i := fun e => by
              have h9 := hcj i e
              simp [hil] at h9
            have hjlt : j < ops.size := by
              cases hoj : ops[j]? with
              | none => simp [hoj] at hjd
              | some oj => exact (Array.getElem?_eq_some_iff.1 hoj).1
            have hA : A j i = false := by
              cases hAA : A j i with
              | false => rfl
              | true =>
                have h8 := hbl j i hjlt hlt hj hAA
                simp [hil] at h8 hun
                rw [hun] at h8
                cases h8
            refine hV _ _ _ _ _ hjlt hlt hji hci hA (hd j d hj (fun q hq => ?_) hjd) hg
            have h9 := hcj q hq
            by_cases hqi : q = i
            · subst hqi; exact absurd hq hci
            · rwa [getD_set_ne false (Ne.symm hqi)] at h9
  refine key ops.size _ a _ (by simp) ?_ (fun i j _ _ hi _ => by rw [replicate_false] at hi; cases hi) ⟨rfl, rfl, hG0, fun _ _ => rfl⟩ (fun i d hi _ _ => by rw [replicate_false] at hi; cases hi)
  exact Nat.le_trans List.count_le_length (by simp)
theorem pre_use {V : Nat → Value → World → Prop} {C : Nat → Option Nat} {i : Nat} {o : Oper} {a' : Act} {w' : World} (hpre : ∀ e ∈ o.after, Region.binds .any e = true → (C e.on = none ∨ C e.on = some i) → ∀ d, (ops[e.on]?).bind (·.dst) = some d → V e.on (a'.tmps.getD d undef) w') (j : Nat) (d : Tmp)
    (h : waits o j = true) (hd : (ops[j]?).bind (·.dst) = some d) (hc : C j = none ∨ C j = some i) : V j (a'.tmps.getD d undef) w' := by
  obtain ⟨e, he, hb⟩ := Array.any_eq_true'.1 h
  simp only [Bool.and_eq_true, beq_iff_eq] at hb
  obtain ⟨h1, rfl⟩ := hb
  exact hpre e he h1 hc d hd
theorem su_value {V : Nat → Value → World → Prop} {S : Nat → World → World → Prop} {i : Nat} {o : Oper} {a' : Act} {w' w'' : World} (v : Value) (hi : ops[i]? = some o) (hw : Region.wanted o (yielded ops a'.tmps) = true)
    (hr : (execOp a'.eval o).run P w' = .ok (.value v) w'') (hg : S i w' w'') (hv : V i v w'') : wpOp P ops Q i (fun a'' w2 => S i w' w2 ∧ ∃ v, a'' = a'.put o.dst v ∧ V i v w2) a' w' :=
  wpOp_value v hi hw hr ⟨hg, v, rfl, hv⟩
theorem su_call {V : Nat → Value → World → Prop} {S : Nat → World → World → Prop} {i : Nat} {o : Oper} {a' : Act} {w' : World} (f : FuncId) (args : Array Value) (hi : ops[i]? = some o) (hw : Region.wanted o (yielded ops a'.tmps) = true)
    (hr : (execOp a'.eval o).run P w' = .ok (.enter f args) w') (h : Calls P f args w' fun e w2 => ∃ v, e = .returned v ∧ S i w' w2 ∧ V i v w2) : wpOp P ops Q i (fun a'' w2 => S i w' w2 ∧ ∃ v, a'' = a'.put o.dst v ∧ V i v w2) a' w' :=
  wpOp_call f args hi hw hr (h.mono fun _ _ ⟨v, he, hg, hv⟩ => ⟨v, he, hg, v, rfl, hv⟩)
end
end Go.Proofs.YtagdlpodpokmmaaDoor
