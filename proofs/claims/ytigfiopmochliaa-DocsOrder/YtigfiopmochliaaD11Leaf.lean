/- A collection in memory; the contracts of New and Len; look-ups, stores and deletes as equations. -/
import Derived.Test.YtigfiopmochliaaD11Spec
import Derived.Test.YtigfiopmochliaaE9Eq
import Derived.Test.YtigfiopmochliaaMgB
import Derived.Maps.OwnSet
import Derived.StringKeys
namespace Go.Proofs.Ytigfiopmochliaa.D11
open Go.RowKit C8 E9
/-- How a value of a collection reads: a struct of one string. -/
def elV (v : Value) : Option (DataW Unit × List MemPlace) :=
  match v with
  | .agg ⟨[.string s]⟩ => if s.size ≤ maxLen then some (.lit (.string s.data.toList), []) else none
  | _ => none
theorem elV_mk (v : List Nat) (h : v.length ≤ maxLen) : elV (.agg #[.string (strB v)]) = some (.lit (.string (u v)), []) := by
  show (if (strB v).size ≤ maxLen then some (DataW.lit (Lit.string (strB v).data.toList), []) else none) = _
  rw [strB_size, if_pos h, u_strB]
theorem elV_inv {x : Value} {z : DataW Unit × List MemPlace} (h : elV x = some z) : ∃ s : ByteArray, x = .agg #[.string s] ∧ z = (.lit (.string s.data.toList), []) := by
  unfold elV at h
  split at h
  · rename_i s
    split at h
    · cases h; exact ⟨s, rfl, rfl⟩
    · cases h
  · cases h
theorem bytes_eq {s : ByteArray} {v : List Nat} (h : s.data.toList = u v) : s = strB v := by
  have e : s.data.toList = (strB v).data.toList := by rw [u_strB, h]
  have e2 : s.data = (strB v).data := Array.toList_inj.1 e
  cases s
  cases hy : strB v
  rw [hy] at e2
  exact congrArg ByteArray.mk e2
theorem elV_is {x : Value} {v : List Nat} {ps : List MemPlace} (h : elV x = some (.lit (.string (u v)), ps)) : x = .agg #[.string (strB v)] := by
  obtain ⟨s, rfl, e⟩ := elV_inv h
  simp only [Prod.mk.injEq, DataW.lit.injEq, Lit.string.injEq] at e
  rw [bytes_eq e.1.symm]
theorem law : Maps.Keyed Try.prog 9 := Maps.string_keyed Try.underlying9
theorem zero68 (w : World) : (zeroValue 68).run Try.prog w = .ok (.agg #[.string ⟨#[]⟩]) w := by kernel_rfl
theorem keyIs (k : List Nat) (h : k.length ≤ maxLen) : keyOf Try.prog 9 (.string (strB k)) = some (.string (u k)) := by
  have := Go.WideMaps.keyOf_string_mk (P := Try.prog) (k := 9) Try.underlying9 (s := strB k) (by rw [strB_size]; exact h)
  rwa [u_strB] at this
theorem own_len {w : World} {b n : Nat} {L : Col} (h : w.ownsMap Try.prog 9 elV b n (dat L)) : w.ownsMap Try.prog 9 elV b L.length (dat L) := by
  obtain ⟨es, c, h1, h2, h3, h4⟩ := h
  refine ⟨es, c, h1, h2, ?_, h4⟩
  have h5 : (ents L) = (es.toList.map (WideElems.rg Try.prog 9 elV)).foldr DataW.insert [] := by
    have := h4
    unfold dat at this
    exact DataW.map.inj this
  have h6 := congrArg List.length h5
  rw [length_read] at h6
  simp [ents] at h6
  omega
/-- The collection behind a pointer: its block, its map's block, what it holds. -/
structure DcIs (w : World) (p b : Nat) (L : Col) : Prop where
  blk : w.heap[p]? = some (.cells #[.map (some b)] 64 (0, 0))
  own : w.ownsMap Try.prog 9 elV b L.length (dat L)
  ok : Ok L
  few : L.length ≤ 1000000
section
variable {w w' : World} {p b : Nat} {L : Col}
theorem DcIs.cell (h : DcIs w p b L) : w.cell? ⟨p, 0, none⟩ = some (.map (some b)) := by rw [cell_of_row _ _ _ _ _ _ h.blk]; rfl
theorem DcIs.ltp (h : DcIs w p b L) : p < w.heap.size := (Array.getElem?_eq_some_iff.1 h.blk).1
theorem DcIs.ltb (h : DcIs w p b L) : b < w.heap.size := h.own.lt
theorem DcIs.ne (h : DcIs w p b L) : p ≠ b := fun e => by
  obtain ⟨es, c, hb, _⟩ := h.own
  have := h.blk
  rw [e, hb] at this
  cases this
theorem DcIs.only {bs : List Nat} (h : DcIs w p b L) (ho : Only bs w w') (h1 : p ∉ bs) (h2 : b ∉ bs) : DcIs w' p b L := by
  refine ⟨(ho.block p h.ltp h1).trans h.blk, ?_, h.ok, h.few⟩
  obtain ⟨es, c, hb, h3, h4, h5⟩ := h.own
  exact ⟨es, c, (ho.block b h.ltb h2).trans hb, h3, h4, h5⟩
theorem DcIs.below (h : DcIs w p b L) (hb : Below w.heap.size w w') : DcIs w' p b L := h.only (Only.of_below hb []) (by simp) (by simp)
/-- A value is looked up, with the answer whether there is one. -/
theorem DcIs.look (h : DcIs w p b L) {k : List Nat} (hk : ∀ x ∈ k, x < 256) (hl : k.length ≤ maxLen) :
    (Instr.lookup 62 (.map (some b)) (.string (strB k)) true).run Try.prog w = .ok (.tuple #[.agg #[.string (strB ((get k L).getD []))], .bool (get k L).isSome]) w := by
  obtain ⟨v, ps, hrun, hv⟩ := h.own.look_ok law Try.underlying62 (zero68 w) (zd := .lit (.string (u []))) (zp := []) (elV_mk [] (by simp)) (keyIs k hl)
  rw [hrun, dat_has h.ok hk]
  rw [dat_at h.ok hk] at hv
  have e : v = .agg #[.string (strB ((get k L).getD []))] := by
    refine elV_is (ps := ps) ?_
    rw [hv]
    cases get k L <;> rfl
  rw [e]
/-- A value is looked up. -/
theorem DcIs.look1 (h : DcIs w p b L) {k : List Nat} (hk : ∀ x ∈ k, x < 256) (hl : k.length ≤ maxLen) :
    (Instr.lookup 62 (.map (some b)) (.string (strB k)) false).run Try.prog w = .ok (.agg #[.string (strB ((get k L).getD []))]) w := by
  obtain ⟨v, ps, hrun, hv⟩ := h.own.lookup law Try.underlying62 (zero68 w) (zd := .lit (.string (u []))) (zp := []) (elV_mk [] (by simp)) (keyIs k hl)
  rw [hrun]
  rw [dat_at h.ok hk] at hv
  have e : v = .agg #[.string (strB ((get k L).getD []))] := by
    refine elV_is (ps := ps) ?_
    rw [hv]
    cases get k L <;> rfl
  rw [e]
/-- A value is put. -/
theorem DcIs.put (h : DcIs w p b L) {k v : List Nat} (hp : Pok (k, v)) (hf : L.length < 1000000) :
    ∃ w', (Instr.mapUpdate 62 (.map (some b)) (.string (strB k)) (.agg #[.string (strB v)])).run Try.prog w = .ok () w' ∧ DcIs w' p b (ins k v L) ∧ Only [b] w w' := by
  have hk := hp.2.2.1
  have hv := hp.2.2.2
  simp only at hk hv
  obtain ⟨w', h1, h2, h3⟩ := h.own.update law Try.underlying62 (by unfold maxLen; omega) (keyIs k (by unfold maxLen; omega)) (elV_mk v (by unfold maxLen; omega))
  have ho : Only [b] w w' := Only.of_grown h3 (fun x hx => by cases hx; simp)
  rw [dat_put h.ok hp.1] at h2
  refine ⟨w', h1, ⟨(ho.block p h.ltp (by simpa using h.ne)).trans h.blk, own_len h2, ok_ins h.ok hp, ?_⟩, ho⟩
  have := length_ins_le k v L
  omega
/-- A value is taken away. -/
theorem DcIs.drop (h : DcIs w p b L) {k : List Nat} (hk : ∀ x ∈ k, x < 256) (hl : k.length ≤ maxLen) (ty : TypeId) :
    ∃ w', (Builtin.delete_ #[62, 9] ty #[.map (some b), .string (strB k)]).run Try.prog w = .ok (.tuple #[]) w' ∧ DcIs w' p b (del k L) ∧ Only [b] w w' := by
  obtain ⟨w', h1, h2, h3⟩ := h.own.drop law Try.underlying62 (keyIs k hl) ty
  have ho : Only [b] w w' := Only.of_grown h3.grown (fun x hx => by cases hx; simp)
  rw [dat_del h.ok hk] at h2
  refine ⟨w', h1, ⟨(ho.block p h.ltp (by simpa using h.ne)).trans h.blk, own_len h2, ok_del h.ok k, ?_⟩, ho⟩
  have := length_del_le k L
  have := h.few
  omega
theorem DcIs.len (h : DcIs w p b L) (ty : TypeId) : (Builtin.len_ #[62] ty #[.map (some b)]).run Try.prog w = .ok (.int .i64 L.length) w := by
  rw [h.own.len Try.underlying62 ty, dat_size]
end
theorem Len_any (w : World) (p b : Nat) (L : Col) (h : DcIs w p b L) : Calls Try.prog 15 #[.pointer (some ⟨p, 0, none⟩)] w fun e w' => e = .returned (.int .i64 L.length) ∧ w' = w := by
  have hc := h.cell
  have hl := fun ty => h.len ty
  clear h
  go_enter Try.func15, Try.ntmps15
  go_wp2
  go_ret
  exact ⟨rfl, rfl⟩
theorem heap_two (w : World) (o o' : Obj) : ((w.alloc o).alloc o').heap[w.heap.size]? = some o := heap_alloc2_old w o o'
theorem New_any (w : World) : Calls Try.prog 9 #[] w fun e w' => ∃ p b, e = .returned (.pointer (some ⟨p, 0, none⟩)) ∧ DcIs w' p b [] ∧ w.heap.size ≤ p ∧ w.heap.size ≤ b ∧ Below w.heap.size w w' := by
  have hmm := @run_makeMap Try.prog
  have H1 : Hid (DcIs ((w.alloc (.map #[] 0)).alloc (.cells #[.map (some w.heap.size)] 64)) (w.heap.size + 1) w.heap.size []) := by
    refine ⟨heap_alloc2_new w _ _, ?_, Ok.nil, by simp⟩
    exact (World.ownsMap_made w Try.prog 9 elV).alloc _
  have H2 : Hid (Below w.heap.size w ((w.alloc (.map #[] 0)).alloc (.cells #[.map (some w.heap.size)] 64))) := (bel_alloc (Nat.le_refl _) _).trans (bel_alloc (by simp) _)
  go_enter Try.func9, Try.ntmps9
  go_wp2
  go_ret
  exact ⟨_, _, rfl, H1.out, by omega, by omega, H2.out⟩
end Go.Proofs.Ytigfiopmochliaa.D11
