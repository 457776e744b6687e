/- As wp_region_st, where what is said of a thing may name what lies in slots. -/
import Derived.Test.YtchoiioeeepoaaaInv
namespace Go.Proofs.Ytchoiioeeepoaaa
open Go.RowKit
section
variable {P : Program} {ops : Array Oper} {Q : Exit → Act → World → Prop}
theorem wp_region_sa {id : Nat} {a : Act} {w : World} (V : Nat → Value → World → Prop) (G : World → World → Prop) (S : (Nat → Bool) → Act → World → Prop) (hm : P.follows .mixedOrders = true)
    (hG0 : G w { w with drawn := w.drawn + 1 }) (hGt : ∀ x y z, G x y → G y z → G x z) (hV : ∀ i v x y, V i v x → G x y → V i v y)
    (hok : regionOk ops a.tmps.size = true) (hS0 : S (fun _ => false) a { w with drawn := w.drawn + 1 })
    (hstep : ∀ i o a' w' f, ops[i]? = some o → RInv ops V G a w a' w' → S f a' w' → f i = false → (∀ e ∈ o.after, Region.binds .any e = true → f e.on = true) →
      (∀ e ∈ o.after, Region.binds .any e = true → ∀ d, (ops[e.on]?).bind (·.dst) = some d → V e.on (a'.tmps.getD d undef) w') →
      wpOp P ops Q i (fun a'' w'' => G w' w'' ∧ S (fun j => if j = i then true else f j) a'' w'' ∧ ∃ v, a'' = a'.put o.dst v ∧ V i v w'') a' w')
    (hend : ∀ a' w' f, RInv ops V G a w a' w' → S f a' w' → (∀ i, i < ops.size → f i = true) → (∀ i d, (ops[i]?).bind (·.dst) = some d → V i (a'.tmps.getD d undef) w') → Q .normal a' w') : (Code.region id ops true).wp P Q a w := by
  refine wp_region_any hm ?_
  have key : ∀ (fuel : Nat) (listed : Array Bool) (a' : Act) (w' : World), listed.size = ops.size → listed.toList.count false ≤ fuel → RInv ops V G a w a' w' → S (fun j => listed.getD j false) a' w' →
      (∀ i d, listed.getD i false = true → (ops[i]?).bind (·.dst) = some d → V i (a'.tmps.getD d undef) w') → wpAny P .any ops Q fuel listed a' w' := by
    intro fuel
    induction fuel with
    | zero =>
      intro listed a' w' hs hc inv hst hd
      have hnone : ∀ i, i < ops.size → listed.getD i false = true := fun i hi => by
        have h0 : false ∉ listed.toList := List.count_eq_zero.1 (Nat.le_zero.1 hc)
        have hi' : i < listed.size := by omega
        cases hb : listed[i] with
        | true => simp [hi', hb]
        | false => exact absurd (Array.getElem_mem_toList hi') (by rw [hb]; exact h0)
      refine ⟨?_, hend a' w' _ inv hst hnone (fun i d hid => hd i d (hnone i ?_) hid)⟩
      · apply List.eq_nil_iff_forall_not_mem.2
        intro j hj
        obtain ⟨h1, o, ho, _⟩ := mem_ready.1 hj
        have := hnone j (Array.getElem?_eq_some_iff.1 ho).1
        have hj' : j < listed.size := by have := (Array.getElem?_eq_some_iff.1 ho).1; omega
        simp [hj'] at h1 this
        rw [h1] at this
        cases this
      · cases ho : ops[i]? with
        | none => simp [ho] at hid
        | some o => exact (Array.getElem?_eq_some_iff.1 ho).1
    | succ fuel ih =>
      intro listed a' w' hs hc inv hst hd
      refine ⟨fun hnil => ?_, fun i hi => ?_⟩
      · have hall : ∀ n i, i < n → i < ops.size → listed.getD i false = true := by
          intro n
          induction n with
          | zero => intro i hi; omega
          | succ n ihn =>
            intro i hi hlt
            have hil : i < listed.size := by omega
            cases hb : listed[i] with
            | true => simp [hil, hb]
            | false =>
              exfalso
              obtain ⟨o, ho⟩ : ∃ o, ops[i]? = some o := ⟨_, Array.getElem?_eq_getElem hlt⟩
              have : i ∈ Region.ready .any ops listed := mem_ready.2 ⟨by simp [hil, hb], o, ho, fun e he hbd => by
                have h3 := (regionOk_spec hok ho).1 e he hbd
                exact ihn e.on (by omega) (by omega)⟩
              rw [hnil] at this
              cases this
        refine hend a' w' _ inv hst (fun i hi => hall (i + 1) i (by omega) hi) (fun i d hid => hd i d (hall (i + 1) i (by omega) ?_) hid)
        cases ho : ops[i]? with
        | none => simp [ho] at hid
        | some o => exact (Array.getElem?_eq_some_iff.1 ho).1
      · obtain ⟨hun, o, ho, hall⟩ := mem_ready.1 hi
        have hlt : i < ops.size := (Array.getElem?_eq_some_iff.1 ho).1
        have hil : i < listed.size := by omega
        refine wpOp_mono (fun a'' w'' hk => ?_) (hstep i o a' w' _ ho inv hst (by simpa [hil] using hun) (fun e he hb => hall e he hb) (fun e he hb d hed => hd e.on d (hall e he hb) hed))
        obtain ⟨hg, hst', v, rfl, hv⟩ := hk
        refine ih _ _ _ (by simpa using hs) ?_ ⟨by rw [size_put]; exact inv.size, by rw [defers_put]; exact inv.defers, hGt _ _ _ inv.grow hg, fun t ht => ?_⟩ ?_ (fun j d hj hjd => ?_)
        · have hf : listed.toList[i]? = some false := by
            simp [hil] at hun ⊢
            exact hun
          rw [Array.toList_setIfInBounds]
          have hcnt := List.count_set (l := listed.toList) (i := i) (a := true) (b := false) (by simpa using hil)
          have hget : listed.toList[i]'(by simpa using hil) = false := (List.getElem?_eq_some_iff.1 hf).2
          rw [hcnt, hget, if_pos (by rfl), if_neg (by decide)]
          omega
        · rw [getD_put _ _ _ _ (fun e => ht i (by rw [ho]; exact e))]
          exact inv.old t ht
        · have hfe : (fun j => (listed.setIfInBounds i true).getD j false) = fun j => if j = i then true else listed.getD j false := by
            funext j
            by_cases hji : j = i
            · subst hji
              simp [hil]
            · rw [getD_set_ne false (Ne.symm hji), if_neg hji]
          rw [hfe]
          exact hst'
        · by_cases hji : j = i
          · subst hji
            have hod : o.dst = some d := by simpa [ho] using hjd
            rw [hod, getD_put_same _ _ _ (by rw [inv.size]; exact ((regionOk_spec hok ho).2 d hod).1)]
            exact hv
          · rw [getD_put _ _ _ _ (fun e => ((regionOk_spec hok ho).2 d e).2 j hji hjd)]
            rw [getD_set_ne false (Ne.symm hji)] at hj
            exact hV _ _ _ _ (hd j d hj hjd) hg
  refine key ops.size _ a _ (by simp) ?_ ⟨rfl, rfl, hG0, fun _ _ => rfl⟩ ?_ (fun i d hi _ => by rw [replicate_false] at hi; cases hi)
  · exact Nat.le_trans List.count_le_length (by simp)
  · have hfe : (fun j => (Array.replicate ops.size false).getD j false) = fun _ => false := funext (replicate_false ops.size)
    rw [hfe]
    exact hS0
end
end Go.Proofs.Ytchoiioeeepoaaa
