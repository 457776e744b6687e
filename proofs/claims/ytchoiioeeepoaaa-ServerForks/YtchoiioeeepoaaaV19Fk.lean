/- What a fork makes of the logs: key by key, in whatever order they come. -/
import Derived.Test.YtchoiioeeepoaaaV19Cpy
namespace Go.Proofs.Ytchoiioeeepoaaa.V19
open Go.RowKit C8 E9 F17 Go.Maps
theorem src_dim {w w' : World} {v : Value} {l : List Nat} {m : Nat} (h : Src w v l) (ho : Only [m] w w') (hm : ∀ o, w.cell? ⟨m, o, none⟩ = none) : Src w' v l := by
  obtain ⟨hs, h1 | h1 | ⟨b, o, c', rfl, hc, hr⟩⟩ := h
  · exact ⟨hs, .inl h1⟩
  · exact ⟨hs, .inr (.inl h1)⟩
  · cases l with
    | nil => exact ⟨hs, .inr (.inl ⟨_, _, rfl, rfl⟩)⟩
    | cons x r =>
      have hb : b ≠ m := fun e => by
        have := hr 0 (.int .u8 (x : Int)) (by simp [ints])
        rw [e, hm] at this
        cases this
      exact ⟨hs, .inr (.inr ⟨b, o, c', rfl, hc, range_kept hr (ho.block b (range_lt hr (by simp [ints])) (by simpa using hb))⟩)⟩
/-- A row stands under what turns just a block without cells. -/
theorem row_dim {w w' : World} {q : Option Addr} {ls : Ls} {m : Nat} (h : LkRow w q ls) (ho : Only [m] w w') (hm : ∀ o, w.cell? ⟨m, o, none⟩ = none) : LkRow w' q ls := fun j hj => by
  obtain ⟨b, o, bp, bc, h1, h2, h3, h4, h5⟩ := h j hj
  have hb : b ≠ m := fun e => by
    rw [e, hm] at h3
    cases h3
  refine ⟨b, o, bp, bc, h1, Nat.lt_of_lt_of_le h2 ho.size, ?_, src_dim h4 ho hm, h5⟩
  rw [World.cell?_of_block (a := ⟨b, o + j, none⟩) (ho.block b h2 (by simpa using hb))]
  exact h3
/-- The rows of a world stand in another one. -/
def Rows (w w' : World) : Prop := ∀ q ls, LkRow w q ls → LkRow w' q ls
theorem Rows.trans {u v w : World} (h : Rows u v) (k : Rows v w) : Rows u w := fun q ls r => k q ls (h q ls r)
theorem Rows.below {w w' : World} (h : Below w.heap.size w w') : Rows w w' := fun _ _ r => r.below h
theorem Rows.dim {w w' : World} {m : Nat} (ho : Only [m] w w') (hm : ∀ o, w.cell? ⟨m, o, none⟩ = none) : Rows w w' := fun _ _ r => row_dim r ho hm
theorem iter_dim {w : World} {r : Nat} {a : Option Nat} {b : Nat} {c : Array Nat} {d : Nat} (h : w.heap[r]? = some (.mapIter a b c d)) (o : Nat) : w.cell? ⟨r, o, none⟩ = none := by simp [World.cell?, h]
structure FkI (D Dc E : DataW Value) (left : Lit → Bool) (M : St) (nn : Int) (w : World) : Prop where
  hasc : ∀ x c, In64 x → In64 c → has Dc (kl x c) = (has D (kl x c) && (decide (x ≠ 1) || left (kl x c)))
  atc : ∀ x c, In64 x → In64 c → has Dc (kl x c) = true → ∀ z, Dc.atKey (kl x c) z = D.atKey (kl x c) z
  hase : ∀ x c, In64 x → In64 c → has E (kl x c) = true → x = 1 ∧ 0 < nn ∧ has D (kl 0 c) = true
  ate : ∀ c, In64 c → 0 < nn → has D (kl 0 c) = true → left (kl 0 c) = false → ∃ q cp, (∀ z, E.atKey (kl 1 c) z = .held (.slice q ((M 0 c).take nn.toNat).length cp)) ∧ LkRow w q ((M 0 c).take nn.toNat) ∧ ((M 0 c).take nn.toNat).length ≤ cp
section
variable {D Dc E : DataW Value} {left : Lit → Bool} {M : St} {nn : Int} {w w' : World}
theorem in0 : In64 0 := by unfold In64; omega
theorem in1 : In64 1 := by unfold In64; omega
theorem FkI.start (D : DataW Value) (M : St) (nn : Int) (w : World) : FkI D D (.map []) (has D) M nn w :=
  ⟨fun x c _ _ => by cases has D (kl x c) <;> simp, fun _ _ _ _ _ _ => rfl, fun _ _ _ _ h => (by cases h), fun c _ _ h1 h2 => by rw [h1] at h2; cases h2⟩
theorem FkI.turn (h : FkI D Dc E left M nn w) (hr : Rows w w') : FkI D Dc E left M nn w' :=
  ⟨h.hasc, h.atc, h.hase, fun c hc h0 h1 h2 => by
    obtain ⟨q, cp, k1, k2, k3⟩ := h.ate c hc h0 h1 h2
    exact ⟨q, cp, k1, hr _ _ k2, k3⟩⟩
theorem strike {left : Lit → Bool} {k z : Lit} (h : z ≠ k) : (left z && !z.sameKey k) = left z := by rw [sameKey_ne h]; simp
theorem strike_same {left : Lit → Bool} {x c : Int} : (left (kl x c) && !(kl x c).sameKey (kl x c)) = false := by rw [WideAt.sameKey_self (kl_key x c)]; simp
theorem FkI.del (h : FkI D Dc E left M nn w) {y : Int} (hy : In64 y) : FkI D (Dc.del (kl 1 y)) E (fun z => left z && !z.sameKey (kl 1 y)) M nn w :=
  ⟨fun x c hx hc => by
    by_cases e : kl x c = kl 1 y
    · obtain ⟨rfl, rfl⟩ := kl_inj hx hc in1 hy e
      rw [has_del_same, strike_same]
      simp
    · rw [has_del_other e, strike e]
      exact h.hasc x c hx hc, fun x c hx hc hh z => by
    by_cases e : kl x c = kl 1 y
    · rw [e, has_del_same] at hh
      cases hh
    · rw [has_del_other e] at hh
      rw [atKey_del_other e]
      exact h.atc x c hx hc hh z, h.hase, fun c hc h0 h1 h2 => by
    have e : kl 0 c ≠ kl 1 y := fun e => by
      have := (kl_inj in0 hc in1 hy e).1
      omega
    rw [strike e] at h2
    exact h.ate c hc h0 h1 h2⟩
theorem FkI.skip (h : FkI D Dc E left M nn w) {y : Int} (hy : In64 y) (hn : ¬ 0 < nn) : FkI D Dc E (fun z => left z && !z.sameKey (kl 0 y)) M nn w :=
  ⟨fun x c hx hc => by
    by_cases e : kl x c = kl 0 y
    · obtain ⟨rfl, rfl⟩ := kl_inj hx hc in0 hy e
      rw [h.hasc 0 c hx hc]
      simp
    · rw [strike e]
      exact h.hasc x c hx hc, h.atc, h.hase, fun c _ h0 => absurd h0 hn⟩
theorem FkI.put (h : FkI D Dc E left M nn w) (hE : IsMap E) {y : Int} (hy : In64 y) (hn : 0 < nn) (hD : has D (kl 0 y) = true) {q : Option Addr} {cp : Nat} (hr : LkRow w q ((M 0 y).take nn.toNat)) (hcp : ((M 0 y).take nn.toNat).length ≤ cp) :
    FkI D Dc (E.put (kl 1 y) (.held (.slice q ((M 0 y).take nn.toNat).length cp))) (fun z => left z && !z.sameKey (kl 0 y)) M nn w :=
  ⟨fun x c hx hc => by
    by_cases e : kl x c = kl 0 y
    · obtain ⟨rfl, rfl⟩ := kl_inj hx hc in0 hy e
      rw [h.hasc 0 c hx hc]
      simp
    · rw [strike e]
      exact h.hasc x c hx hc, h.atc, fun x c hx hc hh => by
    by_cases e : kl x c = kl 1 y
    · obtain ⟨rfl, rfl⟩ := kl_inj hx hc in1 hy e
      exact ⟨rfl, hn, hD⟩
    · rw [has_put_other e] at hh
      exact h.hase x c hx hc hh, fun c hc h0 h1 h2 => by
    by_cases e : kl 0 c = kl 0 y
    · obtain ⟨_, rfl⟩ := kl_inj in0 hc in0 hy e
      exact ⟨q, cp, fun z => atKey_put_same hE (kl_key 1 c) _ z, hr, hcp⟩
    · rw [strike e] at h2
      obtain ⟨q', cp', k1, k2, k3⟩ := h.ate c hc h0 h1 h2
      have e2 : kl 1 c ≠ kl 1 y := fun e2 => e (by rw [(kl_inj in1 hc in1 hy e2).2])
      exact ⟨q', cp', fun z => by rw [atKey_put_other e2]; exact k1 z, k2, k3⟩⟩
theorem fk_end (h : FkI D Dc E (fun _ => false) M nn w) {Dout : DataW Value} (hM : Merged Dout Dc E (fun _ => false)) (hk : ∀ x c, In64 x → In64 c → has D (kl x c) = true → x = 0 ∨ x = 1)
    (hl : ∀ x c, In64 x → In64 c → ∃ q cp, D.atKey (kl x c) (.held (.slice none 0 0)) = .held (.slice q (M x c).length cp) ∧ LkRow w q (M x c) ∧ (M x c).length ≤ cp) :
    (∀ x c, In64 x → In64 c → has Dout (kl x c) = true → x = 0 ∨ x = 1) ∧ ∀ x c, In64 x → In64 c → ∃ q cp, Dout.atKey (kl x c) (.held (.slice none 0 0)) = .held (.slice q (forkM nn M x c).length cp) ∧ LkRow w q (forkM nn M x c) ∧ (forkM nn M x c).length ≤ cp := by
  refine ⟨fun x c hx hc hh => ?_, fun x c hx hc => ?_⟩
  · rw [hM.1] at hh
    rcases Bool.or_eq_true_iff.1 hh with hh | hh
    · rw [h.hasc x c hx hc] at hh
      exact hk x c hx hc (Bool.and_eq_true_iff.1 hh).1
    · exact .inr (h.hase x c hx hc (Bool.and_eq_true_iff.1 hh).1).1
  · rw [hM.2]
    by_cases hx1 : x = 1
    · subst hx1
      have ef : forkM nn M 1 c = (M 0 c).take nn.toNat := by unfold forkM; rw [if_pos rfl]
      rw [ef]
      cases he : has E (kl 1 c) with
      | true =>
        obtain ⟨_, h0, h1⟩ := h.hase 1 c hx hc he
        obtain ⟨q, cp, k1, k2, k3⟩ := h.ate c hc h0 h1 rfl
        exact ⟨q, cp, by simp [k1], k2, k3⟩
      | false =>
        have hd : has Dc (kl 1 c) = false := by
          rw [h.hasc 1 c hx hc]
          simp
        have hz : (M 0 c).take nn.toNat = [] := by
          by_cases h0 : 0 < nn
          · have h1 : has D (kl 0 c) = false := by
              cases h1 : has D (kl 0 c) with
              | false => rfl
              | true =>
                obtain ⟨q, cp, k1, _⟩ := h.ate c hc h0 h1 rfl
                rw [has_true_of_atKey k1] at he
                cases he
            obtain ⟨q, cp, k1, _⟩ := hl 0 c in0 hc
            rw [atKey_of_not_has h1] at k1
            injection k1 with k1
            injection k1 with _ k2
            have : M 0 c = [] := List.length_eq_zero_iff.1 k2.symm
            rw [this]
            simp
          · have : nn.toNat = 0 := by omega
            rw [this, List.take_zero]
        rw [hz]
        exact ⟨none, 0, by simp [atKey_of_not_has hd], LkRow.nil _ _, Nat.le_refl _⟩
    · have ef : forkM nn M x c = M x c := by unfold forkM; rw [if_neg hx1]
      rw [ef]
      have he : has E (kl x c) = false := by
        cases he : has E (kl x c) with
        | false => rfl
        | true => exact absurd (h.hase x c hx hc he).1 hx1
      obtain ⟨q, cp, k1, k2, k3⟩ := hl x c hx hc
      refine ⟨q, cp, ?_, k2, k3⟩
      simp only [he, Bool.false_and, if_neg (by simp : ¬ (false = true))]
      have hd := h.hasc x c hx hc
      rw [decide_eq_true (p := x ≠ 1) hx1, Bool.true_or, Bool.and_true] at hd
      cases hdd : has Dc (kl x c) with
      | true => rw [h.atc x c hx hc hdd]; exact k1
      | false =>
        rw [atKey_of_not_has hdd]
        rw [hdd] at hd
        rw [atKey_of_not_has hd.symm] at k1
        exact k1
end
end Go.Proofs.Ytchoiioeeepoaaa.V19
