/- The plain mathematics of collections: rising lists of names and values; what an entry makes of one; such a list as the datum of a map. -/
import Derived.Test.YtigfiopmochliaaMgD
import Derived.Sort.KeysCollected
import Derived.Maps.Views
namespace Go.Proofs.Ytigfiopmochliaa.D11
open Go.RowKit C8 E9
/-- Names and values. -/
abbrev Col := List (List Nat × List Nat)
def u (l : List Nat) : List UInt8 := l.map UInt8.ofNat
theorem u_strB (l : List Nat) : (strB l).data.toList = u l := strB_list l
theorem u_length (l : List Nat) : (u l).length = l.length := by simp [u]
theorem u_inj {a b : List Nat} (ha : ∀ x ∈ a, x < 256) (hb : ∀ x ∈ b, x < 256) (h : u a = u b) : a = b := by
  refine strB_inj ha hb ?_
  have e : (strB a).data.toList = (strB b).data.toList := by rw [u_strB, u_strB, h]
  have e2 : (strB a).data = (strB b).data := Array.toList_inj.1 e
  cases hx : strB a
  cases hy : strB b
  rw [hx, hy] at e2
  exact congrArg ByteArray.mk e2
theorem strB_u {a b : List Nat} (h : u a = u b) : strB a = strB b := by
  have e : (strB a).data.toList = (strB b).data.toList := by rw [u_strB, u_strB, h]
  have e2 : (strB a).data = (strB b).data := Array.toList_inj.1 e
  cases hx : strB a
  cases hy : strB b
  rw [hx, hy] at e2
  exact congrArg ByteArray.mk e2
/-- A name and a value that may stand in a collection. -/
def Pok (p : List Nat × List Nat) : Prop := (∀ x ∈ p.1, x < 256) ∧ (∀ x ∈ p.2, x < 256) ∧ p.1.length ≤ 64 ∧ p.2.length ≤ 512
/-- A collection: its names rise. -/
def Ok (L : Col) : Prop := (∀ p ∈ L, Pok p) ∧ L.Pairwise (fun p q => u p.1 < u q.1)
def ins (k v : List Nat) : Col → Col
  | [] => [(k, v)]
  | p :: r => if u k < u p.1 then (k, v) :: p :: r else if p.1 = k then (k, v) :: r else p :: ins k v r
def del (k : List Nat) (L : Col) : Col := L.filter (fun p => decide (p.1 ≠ k))
def get (k : List Nat) (L : Col) : Option (List Nat) := (L.find? (fun p => decide (p.1 = k))).map (·.2)
/-- What an entry makes of a collection, and what is told. -/
def after (L : Col) (e : En) : Col × Int :=
  if right e = true then (if e.kind = 1 then (ins e.name e.value L, 0) else if e.kind = 2 then (if (get e.name L).isSome then (del e.name L, 0) else (L, 32)) else (L, 0)) else (L, 10)
theorem get_nil (k : List Nat) : get k [] = none := rfl
theorem get_cons (k : List Nat) (p : List Nat × List Nat) (L : Col) : get k (p :: L) = if p.1 = k then some p.2 else get k L := by
  unfold get
  rw [List.find?_cons]
  by_cases h : p.1 = k <;> simp [h]
theorem get_mem {k v : List Nat} {L : Col} (h : get k L = some v) : (k, v) ∈ L := by
  induction L with
  | nil => cases h
  | cons p r ih =>
    rw [get_cons] at h
    split at h
    · rename_i e
      cases h
      rw [← e]
      simp
    · exact List.mem_cons_of_mem _ (ih h)
theorem get_none {k : List Nat} {L : Col} : get k L = none ↔ ∀ p ∈ L, p.1 ≠ k := by
  induction L with
  | nil => simp [get_nil]
  | cons p r ih =>
    rw [get_cons]
    by_cases e : p.1 = k
    · simp [e]
    · simp [e, ih]
theorem lt_irr (a : List UInt8) : ¬ a < a := List.lt_irrefl a
theorem lt_tr {a b c : List UInt8} (h : a < b) (k : b < c) : a < c := List.lt_trans h k
theorem lt_total (a b : List UInt8) : a < b ∨ a = b ∨ b < a := by
  by_cases h1 : a < b
  · exact .inl h1
  · by_cases h2 : b < a
    · exact .inr (.inr h2)
    · exact .inr (.inl (List.le_antisymm (List.not_lt.1 h2) (List.not_lt.1 h1)))
theorem Ok.nil : Ok [] := ⟨fun p hp => (by cases hp), List.Pairwise.nil⟩
theorem Ok.tail {p : List Nat × List Nat} {L : Col} (h : Ok (p :: L)) : Ok L := ⟨fun q hq => h.1 q (List.mem_cons_of_mem _ hq), (List.pairwise_cons.1 h.2).2⟩
theorem mem_ins {k v : List Nat} {L : Col} {p : List Nat × List Nat} (h : p ∈ ins k v L) : p = (k, v) ∨ p ∈ L := by
  induction L with
  | nil => simpa [ins] using h
  | cons q r ih =>
    unfold ins at h
    split at h
    · simpa using h
    · split at h
      · rcases List.mem_cons.1 h with e | e
        · exact .inl e
        · exact .inr (List.mem_cons_of_mem _ e)
      · rcases List.mem_cons.1 h with e | e
        · exact .inr (by rw [e]; simp)
        · rcases ih e with e | e
          · exact .inl e
          · exact .inr (List.mem_cons_of_mem _ e)
theorem ok_ins {k v : List Nat} {L : Col} (h : Ok L) (hp : Pok (k, v)) : Ok (ins k v L) := by
  induction L with
  | nil => exact ⟨fun p hq => by have e := List.mem_singleton.1 (show p ∈ [(k, v)] from hq); rw [e]; exact hp, List.pairwise_singleton _ _⟩
  | cons q r ih =>
    have hq := List.pairwise_cons.1 h.2
    unfold ins
    split
    · rename_i hlt
      refine ⟨fun p hx => ?_, List.pairwise_cons.2 ⟨fun x hx => ?_, h.2⟩⟩
      · rcases List.mem_cons.1 hx with e | e
        · rw [e]; exact hp
        · exact h.1 p e
      · rcases List.mem_cons.1 hx with e | e
        · rw [e]; exact hlt
        · exact lt_tr hlt (hq.1 x e)
    · rename_i hlt
      split
      · rename_i e
        refine ⟨fun p hx => ?_, List.pairwise_cons.2 ⟨fun x hx => ?_, hq.2⟩⟩
        · rcases List.mem_cons.1 hx with e | e
          · rw [e]; exact hp
          · exact h.1 p (List.mem_cons_of_mem _ e)
        · have := hq.1 x hx
          rw [e] at this
          exact this
      · rename_i hne
        have hi := ih h.tail
        refine ⟨fun p hx => ?_, List.pairwise_cons.2 ⟨fun x hx => ?_, hi.2⟩⟩
        · rcases List.mem_cons.1 hx with e | e
          · rw [e]; exact h.1 q (by simp)
          · exact hi.1 p e
        · rcases mem_ins hx with e | e
          · rw [e]
            rcases lt_total (u k) (u q.1) with c | c | c
            · exact absurd c hlt
            · exact absurd (u_inj hp.1 (h.1 q (by simp)).1 c).symm hne
            · exact c
          · exact hq.1 x e
theorem ok_del {L : Col} (h : Ok L) (k : List Nat) : Ok (del k L) := ⟨fun p hp => h.1 p (List.mem_filter.1 hp).1, h.2.filter _⟩
theorem get_small {k : List Nat} {q : List Nat × List Nat} {r : Col} (hq : ∀ x ∈ r, u q.1 < u x.1) (hlt : u k < u q.1 ∨ u k = u q.1) : get k r = none :=
  get_none.2 fun p hp e => by
    have := hq p hp
    rw [e] at this
    rcases hlt with c | c
    · exact lt_irr _ (lt_tr this c)
    · rw [c] at this
      exact lt_irr _ this
theorem get_ins (j k v : List Nat) (L : Col) : get j (ins k v L) = if k = j then some v else get j L := by
  induction L with
  | nil => simp [ins, get_cons, get_nil]
  | cons q r ih =>
    unfold ins
    split
    · simp [get_cons]
    · split
      · rename_i e
        rw [get_cons, get_cons]
        simp only [e]
        split <;> rfl
      · rename_i hne
        rw [get_cons, get_cons, ih]
        by_cases h1 : q.1 = j
        · have : ¬ k = j := fun e => hne (h1.trans e.symm)
          simp [h1, this]
        · simp [h1]
theorem get_del (j k : List Nat) (L : Col) : get j (del k L) = if k = j then none else get j L := by
  induction L with
  | nil => simp [del, get_nil]
  | cons q r ih =>
    unfold del at ih ⊢
    rw [List.filter_cons]
    by_cases h : q.1 = k
    · simp only [h, ne_eq, not_true_eq_false, decide_false, Bool.false_eq_true, if_false, ih, get_cons]
      split <;> rfl
    · simp only [h, ne_eq, not_false_eq_true, decide_true, if_true, get_cons, ih]
      by_cases h1 : q.1 = j
      · have : ¬ k = j := fun e => h (h1.trans e.symm)
        simp [h1, this]
      · simp [h1]
/-- Two collections that tell the same of each name are the same. -/
theorem ext {L M : Col} (hL : Ok L) (hM : Ok M) (h : ∀ k, get k L = get k M) : L = M := by
  induction L generalizing M with
  | nil =>
    cases M with
    | nil => rfl
    | cons q s =>
      have := h q.1
      rw [get_nil, get_cons] at this
      simp at this
  | cons p r ih =>
    cases M with
    | nil =>
      have := h p.1
      rw [get_nil, get_cons] at this
      simp at this
    | cons q s =>
      have hp := List.pairwise_cons.1 hL.2
      have hq := List.pairwise_cons.1 hM.2
      have h1 := h p.1
      have h2 := h q.1
      rw [get_cons, get_cons] at h1 h2
      simp only [if_true] at h1 h2
      have e1 : p.1 = q.1 := by
        rcases lt_total (u p.1) (u q.1) with c | c | c
        · rw [if_neg (fun e => by rw [e] at c; exact lt_irr _ c), get_small hq.1 (.inl c)] at h1
          cases h1
        · exact u_inj (hL.1 p (by simp)).1 (hM.1 q (by simp)).1 c
        · rw [if_neg (fun e => by rw [e] at c; exact lt_irr _ c), get_small hp.1 (.inl c)] at h2
          cases h2
      have e2 : p.2 = q.2 := by
        rw [if_pos e1.symm] at h1
        exact Option.some.inj h1
      have epq : p = q := Prod.ext e1 e2
      subst epq
      refine congrArg (p :: ·) (ih hL.tail hM.tail fun k => ?_)
      have hk := h k
      rw [get_cons, get_cons] at hk
      by_cases c : p.1 = k
      · rw [get_small hp.1 (.inr (by rw [c])), get_small hq.1 (.inr (by rw [c]))]
      · simpa [c] using hk
theorem length_ins_le (k v : List Nat) (L : Col) : (ins k v L).length ≤ L.length + 1 := by
  induction L with
  | nil => simp [ins]
  | cons q r ih =>
    unfold ins
    split
    · simp
    · split
      · simp
      · simp only [List.length_cons]; omega
theorem length_del_le (k : List Nat) (L : Col) : (del k L).length ≤ L.length := List.length_filter_le _ _
/-! as a map's datum -/
/-- A collection as a map reads. -/
def ents (L : Col) : List (Lit × DataW Unit) := L.map fun p => (.string (u p.1), .lit (.string (u p.2)))
def dat (L : Col) : DataW Unit := .map (ents L)
theorem before_lt (a b : List UInt8) : bytesBefore a b = decide (a < b) := by
  induction a generalizing b with
  | nil => cases b <;> simp [bytesBefore]
  | cons x r ih =>
    cases b with
    | nil => simp [bytesBefore]
    | cons y s =>
      simp only [bytesBefore, ih, List.cons_lt_cons_iff]
      by_cases h1 : x < y <;> by_cases h2 : x = y <;> simp [h1, h2]
theorem same_u {a b : List Nat} (ha : ∀ x ∈ a, x < 256) (hb : ∀ x ∈ b, x < 256) : (Lit.string (u a)).sameKey (.string (u b)) = decide (a = b) := by
  simp only [Lit.sameKey]
  by_cases h : a = b
  · simp [h]
  · have : ¬ u a = u b := fun e => h (u_inj ha hb e)
    simp [h, this]
theorem dat_del {L : Col} (h : Ok L) {k : List Nat} (hk : ∀ x ∈ k, x < 256) : (dat L).del (.string (u k)) = dat (del k L) := by
  show DataW.map ((ents L).filter fun p => !p.1.sameKey (.string (u k))) = DataW.map (ents (del k L))
  congr 1
  unfold ents del
  rw [List.filter_map]
  congr 1
  refine List.filter_congr fun p hp => ?_
  simp only [Function.comp]
  rw [same_u (h.1 p hp).1 hk]
  by_cases e : p.1 = k <;> simp [e]
theorem ents_ins {L : Col} (h : Ok L) {k v : List Nat} (hk : ∀ x ∈ k, x < 256) : DataW.insert (.string (u k), .lit (.string (u v))) ((ents L).filter fun p => !p.1.sameKey (.string (u k))) = ents (ins k v L) := by
  induction L with
  | nil => rfl
  | cons q r ih =>
    have hq := List.pairwise_cons.1 h.2
    have ihr := ih h.tail
    have hgone : ∀ (s : Col), (∀ x ∈ s, u k < u x.1) → ((ents s).filter fun p => !p.1.sameKey (.string (u k))) = ents s := fun s hs => by
      refine List.filter_eq_self.2 fun p hp => ?_
      obtain ⟨x, hx, rfl⟩ := List.mem_map.1 hp
      have : ¬ u x.1 = u k := fun e => by have := hs x hx; rw [e] at this; exact lt_irr _ this
      simp [Lit.sameKey, this]
    show DataW.insert _ (List.filter _ ((Lit.string (u q.1), DataW.lit (.string (u q.2))) :: ents r)) = _
    rw [List.filter_cons, same_u (h.1 q (by simp)).1 hk]
    unfold ins
    by_cases e : q.1 = k
    · have hlt : ¬ u k < u q.1 := by rw [e]; exact lt_irr _
      rw [if_neg hlt, if_pos e]
      simp only [e, decide_true, Bool.not_true, Bool.false_eq_true, if_false]
      rw [hgone r (fun x hx => by have := hq.1 x hx; rwa [e] at this)]
      cases r with
      | nil => rfl
      | cons y s =>
        show DataW.insert _ ((Lit.string (u y.1), DataW.lit (.string (u y.2))) :: ents s) = _
        unfold DataW.insert
        have hy := hq.1 y (by simp)
        rw [e] at hy
        simp only [Lit.before, before_lt, hy, decide_true, if_true]
        rfl
    · simp only [e, decide_false, Bool.not_false, if_true, if_false]
      unfold DataW.insert
      simp only [Lit.before, before_lt]
      by_cases hlt : u k < u q.1
      · rw [hgone r (fun x hx => lt_tr hlt (hq.1 x hx))]
        simp only [hlt, decide_true, if_true]
        rfl
      · simp only [hlt, decide_false, Bool.false_eq_true, if_false]
        rw [ihr]
        rfl
theorem dat_put {L : Col} (h : Ok L) {k v : List Nat} (hk : ∀ x ∈ k, x < 256) : (dat L).put (.string (u k)) (.lit (.string (u v))) = dat (ins k v L) := congrArg DataW.map (ents_ins h hk)
theorem dat_has {L : Col} (h : Ok L) {k : List Nat} (hk : ∀ x ∈ k, x < 256) : Maps.has (dat L) (.string (u k)) = (get k L).isSome := by
  show (ents L).any (fun p => p.1.sameKey (.string (u k))) = _
  induction L with
  | nil => rfl
  | cons q r ih =>
    show ((Lit.string (u q.1)).sameKey (.string (u k)) || (ents r).any (fun p => p.1.sameKey (.string (u k)))) = _
    rw [same_u (h.1 q (by simp)).1 hk, ih h.tail, get_cons]
    by_cases e : q.1 = k <;> simp [e]
theorem dat_at {L : Col} (h : Ok L) {k : List Nat} (hk : ∀ x ∈ k, x < 256) (z : DataW Unit) : (dat L).atKey (.string (u k)) z = ((get k L).map (fun v => DataW.lit (.string (u v)))).getD z := by
  induction L with
  | nil => rfl
  | cons q r ih =>
    have e0 : (dat (q :: r)).atKey (.string (u k)) z = if (Lit.string (u q.1)).sameKey (.string (u k)) = true then .lit (.string (u q.2)) else (dat r).atKey (.string (u k)) z := by
      simp only [dat, DataW.atKey, ents, List.map_cons, List.find?_cons]
      cases (Lit.string (u q.1)).sameKey (.string (u k)) <;> rfl
    rw [e0, same_u (h.1 q (by simp)).1 hk, get_cons, ih h.tail]
    by_cases e : q.1 = k <;> simp [e]
theorem dat_size (L : Col) : Maps.size (dat L) = L.length := by simp [dat, Maps.size, ents]
theorem dat_keys (L : Col) : strKeys (dat L) = L.map (fun p => u p.1) := by simp [dat, strKeys, ents, strOf]
theorem sorted_keys {L : Col} (h : Ok L) {ss : List (List UInt8)} (hs : ss.Perm (strKeys (dat L))) : ss.mergeSort (fun x y => decide (x ≤ y)) = L.map (fun p => u p.1) := by
  have e := mergeSort_of_perm hs
  show ss.mergeSort leB = _
  rw [e, dat_keys]
  refine List.mergeSort_of_pairwise ?_
  refine List.pairwise_map.2 (h.2.imp fun {p q} hlt => ?_)
  simp only [leB, decide_eq_true_eq]
  exact List.le_of_lt hlt
end Go.Proofs.Ytigfiopmochliaa.D11
