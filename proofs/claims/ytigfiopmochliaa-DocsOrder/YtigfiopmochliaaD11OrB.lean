/- For DocsOrder: a map of names that were seen; rows of slices of bytes that grow; names in a turned order. -/
import Derived.Test.YtigfiopmochliaaD11Args
namespace Go.Proofs.Ytigfiopmochliaa.D11
open Go.RowKit C8 E9 P10
/-- A map of the names that were seen. -/
def Seen (w : World) (b n : Nat) (ss : List (List Nat)) : Prop := ∃ D : DataW Unit, w.ownsMap Try.prog 9 (plainElem Try.prog 4) b n D ∧ ∀ k : List Nat, (∀ x ∈ k, x < 256) → D.atKey (.string (u k)) (.lit (.bool false)) = .lit (.bool (decide (k ∈ ss)))
theorem Seen.made (w : World) : Seen (w.alloc (.map #[] 0)) w.heap.size 0 [] := ⟨.map [], World.ownsMap_made w Try.prog 9 _, fun _ _ => rfl⟩
theorem Seen.lt {w : World} {b n : Nat} {ss : List (List Nat)} (h : Seen w b n ss) : b < w.heap.size := by
  obtain ⟨D, h1, _⟩ := h
  exact h1.lt
theorem Seen.only {w w' : World} {b n : Nat} {ss : List (List Nat)} {bs : List Nat} (h : Seen w b n ss) (ho : Only bs w w') (hb : b ∉ bs) : Seen w' b n ss := by
  have hlt := h.lt
  obtain ⟨D, ⟨es, c, h1, h2⟩, h3⟩ := h
  exact ⟨D, ⟨es, c, (ho.block b hlt hb).trans h1, h2⟩, h3⟩
theorem plain_bool_inv {P : Program} {e : TypeId} (he : P.underlying e = some .bool) {v : Value} {z : DataW Unit × List MemPlace} (h : plainElem P e v = some z) : ∃ x, v = .bool x ∧ z = (.lit (.bool x), []) := by
  unfold plainElem at h
  rw [he] at h
  cases v <;> simp at h
  rename_i x
  exact ⟨x, rfl, h.symm⟩
theorem zero4 (w : World) : (zeroValue 4).run Try.prog w = .ok (.bool false) w := by kernel_rfl
theorem Seen.look {w : World} {b n : Nat} {ss : List (List Nat)} (h : Seen w b n ss) {k : List Nat} (hk : ∀ x ∈ k, x < 256) (hl : k.length ≤ maxLen) :
    (Instr.lookup 59 (.map (some b)) (.string (strB k)) false).run Try.prog w = .ok (.bool (decide (k ∈ ss))) w := by
  obtain ⟨D, h1, h2⟩ := h
  obtain ⟨v, ps, hrun, hv⟩ := h1.lookup law Try.underlying59 (zero4 w) (zd := .lit (.bool false)) (zp := []) (plainElem_bool Try.underlying4 false) (keyIs k hl)
  rw [hrun]
  rw [h2 k hk] at hv
  have e : v = .bool (decide (k ∈ ss)) := by
    obtain ⟨x, e1, e2⟩ := plain_bool_inv Try.underlying4 hv
    simp only [Prod.mk.injEq, DataW.lit.injEq, Lit.bool.injEq] at e2
    rw [e1, e2.1]
  rw [e]
theorem Seen.put {w : World} {b n : Nat} {ss : List (List Nat)} (h : Seen w b n ss) {k : List Nat} (hk : ∀ x ∈ k, x < 256) (hl : k.length ≤ maxLen) (hn : n < maxLen) :
    ∃ w', (Instr.mapUpdate 59 (.map (some b)) (.string (strB k)) (.bool true)).run Try.prog w = .ok () w' ∧ Seen w' b (n + 1) (k :: ss) ∧ Only [b] w w' := by
  obtain ⟨D, h1, h2⟩ := h
  obtain ⟨w', r1, r2, r3⟩ := h1.update law Try.underlying59 hn (keyIs k hl) (plainElem_bool Try.underlying4 true)
  refine ⟨w', r1, ⟨_, r2, fun j hj => ?_⟩, Only.of_grown r3 (fun x hx => by cases hx; simp)⟩
  by_cases e : j = k
  · subst e
    rw [Maps.atKey_put_same h1.isMap (show WideAt.IsKeyLit (.string (u j)) from trivial)]
    simp
  · rw [Maps.atKey_put_other (fun e2 => e (u_inj hj hk (by injection e2))), h2 j hj]
    simp [e]
/-! rows of slices of bytes -/
theorem info23 : ∃ i, Try.prog.info? 23 = some i ∧ i.size = 1 ∧ i.bytes = 24 ∧ i.zero = some (.slice none 0 0) := info_of (by kernel_rfl)
theorem law_append_b {ops : Array Oper} {rest : List Oper} {dst : Option Tmp} {T : TypeId} {pos : String} {after : Array Edge} {a : Act} {w : World} {Q : Exit → Act → World → Prop} {so xo : Operand}
    (base : Nat) (v : Value) (n : Nat) (xs : List Value) (g : Nat) (p : Option Addr) (l c : Nat) (hs : a.eval so = v) (hx : a.eval xo = .slice (some ⟨g, 0, none⟩) 1 1) (hown : w.ownsRow base 23 1 v n xs) (hc : w.rangeAt g 0 [.slice p l c])
    (hn : n ≤ 1000000) (hbase : base ≤ w.heap.size)
    (h : ∀ v' w', w'.ownsRow base 23 1 v' (n + 1) (xs ++ [.slice p l c]) → w.grownBy w' v.ownBlock → wpList Try.prog ops Q rest (a.put dst v') w') :
    wpList Try.prog ops Q ({ dst := dst, op := .call { callee := .builtin .append, args := #[so, xo], argTypes := #[58, 58] }, type := T, pos := pos, after := after, guard := none } :: rest) a w := by
  obtain ⟨i, hi, hsz, hby, hz⟩ := info23
  refine wpList_append_own_at _ rfl so xo 58 rfl base 23 i _ 1 24 Try.underlying58 hi hz hsz hby rfl (by decide) v n xs hs hown ⟨g, 0, none⟩ 1 1 [.slice p l c] hx rfl (fun j y hy => ?_) (by simp; rfl) (by unfold maxLen; omega) (by omega) hbase (fun v' w' h1 h2 _ _ => h v' w' h1 h2)
  rw [Addr.add_mid]
  exact hc j y hy
/-! names in a turned order -/
/-- What a collection has behind some puts of names. -/
def Has (L : Col) (ks : List (List Nat)) : Prop := Ok L ∧ L.length ≤ ks.length ∧ ∀ k, get k L = if k ∈ ks then some (k ++ [118]) else none
theorem Has.nil : Has [] [] := ⟨Ok.nil, Nat.le_refl _, fun _ => rfl⟩
theorem Has.put {L : Col} {ks : List (List Nat)} (h : Has L ks) {k : List Nat} (hk : ∀ x ∈ k, x < 256) (hl : k.length ≤ 64) : Has (ins k (k ++ [118]) L) (ks ++ [k]) := by
  refine ⟨ok_ins h.1 ⟨hk, fun x hx => ?_, hl, by simp; omega⟩, ?_, fun j => ?_⟩
  · rcases List.mem_append.1 hx with e | e
    · exact hk x e
    · rw [List.mem_singleton.1 e]; omega
  · have h1 := length_ins_le k (k ++ [118]) L
    have h2 := h.2.1
    rw [List.length_append]
    simp only [List.length_cons, List.length_nil]
    omega
  · rw [get_ins, h.2.2 j]
    by_cases e : k = j
    · subst e; simp
    · have e' : ¬ j = k := fun x => e x.symm
      simp [e, e']
/-- Two that have the same names are the same. -/
theorem Has.same {L M : Col} {ks js : List (List Nat)} (h : Has L ks) (h' : Has M js) (he : ∀ k, k ∈ ks ↔ k ∈ js) : L = M := ext h.1 h'.1 (fun k => by rw [h.2.2 k, h'.2.2 k]; simp [he k])
/-- Each place comes once, wherever one begins. -/
theorem turned {n r : Nat} (hn : 0 < n) (i : Nat) (hi : i < n) : ∃ t, t < n ∧ (t + r % n) % n = i := by
  have hr := Nat.mod_lt r hn
  refine ⟨(i + (n - r % n)) % n, Nat.mod_lt _ hn, ?_⟩
  rw [Nat.mod_add_mod, Nat.add_assoc, Nat.sub_add_cancel (Nat.le_of_lt hr), Nat.add_mod_right, Nat.mod_eq_of_lt hi]
end Go.Proofs.Ytigfiopmochliaa.D11
