/- The key of a log: a place as it stands in the map; how an element of the map reads. -/
import Derived.Test.YtchoiioeeepoaaaF17Leaf
import Derived.DeepKeys4
import Derived.Maps.OwnSet
namespace Go.Proofs.Ytchoiioeeepoaaa.V19
open Go.RowKit C8 E9 F17
open Go.Maps (Keyed)
/-- A place. -/
def pl (br c : Int) : Value := .agg #[.int .i64 br, .int .i64 c]
theorem laid : laidOutB Try.prog = true := by kernel_rfl
theorem row64 : (64 : TypeId) < Try.prog.types.size := of_decide_eq_true (by kernel_rfl)
theorem wide64 : (match Try.prog.underlying 64 with | some (.array _ _) | some (.struct _) => true | _ => false) = true := by kernel_rfl
theorem law : Keyed Try.prog 64 := Keyed.of_law (deep_law_laid laid (m := 2) (by omega) row64 (by kernel_rfl) wide64)
theorem deep64 : Try.prog.keyType 64 = true := by kernel_rfl
theorem cells64 : Try.prog.cellsOf 64 = 2 := by kernel_rfl
theorem cells3 : Try.prog.cellsOf 3 = 1 := by kernel_rfl
def ok64 : Option TypeDesc → Bool
  | some (.struct fs) => decide (fs.size = 2) && fs.all (·.name != "_") && decide (fs[0]!.type = 3) && decide (fs[0]!.offset = 0) && decide (fs[1]!.type = 3) && decide (fs[1]!.offset = 1)
  | _ => false
theorem ok64_inv {o : Option TypeDesc} (h : ok64 o = true) : ∃ fs : Array Field, o = some (.struct fs) ∧ fs.toList = [fs[0]!, fs[1]!] ∧ (fs.all (·.name != "_") = true ∧ fs[0]!.type = 3 ∧ fs[0]!.offset = 0 ∧ fs[1]!.type = 3 ∧ fs[1]!.offset = 1) := by
  match o, h with
  | some (.struct fs), hc =>
    simp only [ok64, Bool.and_eq_true, decide_eq_true_eq] at hc
    obtain ⟨⟨⟨⟨⟨a1, a2⟩, a3⟩, a4⟩, a5⟩, a6⟩ := hc
    refine ⟨fs, rfl, ?_, a2, a3, a4, a5, a6⟩
    apply List.ext_getElem
    · simp [a1]
    · intro j h1 h2
      simp at h2
      match j, h2 with
      | 0, _ => simp [a1]
      | 1, _ => simp [a1]
theorem is64 : ok64 (Try.prog.underlying 64) = true := by kernel_rfl
theorem size64 : ∃ n, Try.prog.types.size + 1 = n + 2 := by
  have h : (64 : Nat) < Try.prog.types.size := row64
  exact ⟨Try.prog.types.size - 1, by omega⟩
theorem lits64 (d : Nat) (x : Value) (y : Value) : Try.prog.keyLits (d + 2) 64 [x, y] = (Try.prog.keyLits (d + 1) 3 [x]).bind fun a => (Try.prog.keyLits (d + 1) 3 [y]).bind fun b => some (a ++ b) := by
  obtain ⟨fs, hu, hf, h2, h3, h4, h5, h6⟩ := ok64_inv is64
  show Program.keyLits Try.prog ((d + 1) + 1) 64 [x, y] = _
  conv => lhs; unfold Program.keyLits
  simp only [hu]
  rw [if_pos ⟨by rw [cells64]; rfl, h2⟩, hf]
  simp only [List.mapM_cons, List.mapM_nil, h3, h4, h5, h6, cells3]
  simp only [List.drop_zero, List.take_succ_cons, List.take_zero, List.drop_succ_cons]
  cases Try.prog.keyLits (d + 1) 3 [x] <;> cases Try.prog.keyLits (d + 1) 3 [y] <;> simp [bind, pure]
theorem arr2 {cs : Array Value} (h : cs.size = 2) : ∃ x y, cs = #[x, y] := by
  obtain ⟨l⟩ := cs
  match l, h with
  | [x, y], _ => exact ⟨x, y, rfl⟩
/-- The key that a place reads as. -/
def kl (br c : Int) : Lit := .string (keyBytes [.int .i64 br, .int .i64 c])
def In64 (x : Int) : Prop := -9223372036854775808 ≤ x ∧ x ≤ 9223372036854775807
theorem wf64 {x : Int} : (Lit.int .i64 x).wf = true ↔ In64 x := by
  simp only [Lit.wf, Bool.and_eq_true, decide_eq_true_eq]
  have e1 : IntKind.min .i64 = -9223372036854775808 := by decide
  have e2 : IntKind.max .i64 = 9223372036854775807 := by decide
  rw [e1, e2]
  rfl
theorem lits3 (d : Nat) (x : Int) : Try.prog.keyLits (d + 1) 3 [.int .i64 x] = if (Lit.int .i64 x).wf = true then some [.int .i64 x] else none := by
  unfold Program.keyLits
  simp [Try.underlying3]
theorem lits3_inv {d : Nat} {v : Value} {l : List Lit} (h : Try.prog.keyLits (d + 1) 3 [v] = some l) : ∃ x, v = .int .i64 x ∧ In64 x ∧ l = [.int .i64 x] := by
  unfold Program.keyLits at h
  simp only [Try.underlying3] at h
  cases v <;> simp at h
  obtain ⟨⟨rfl, h1⟩, rfl⟩ := h
  exact ⟨_, rfl, wf64.1 h1, rfl⟩
theorem key_mk {br c : Int} (h1 : In64 br) (h2 : In64 c) : keyOf Try.prog 64 (pl br c) = some (kl br c) := by
  have hu := wide64
  unfold keyOf
  split at hu
  · rename_i h
    rw [h]
    simp only [pl, Value.formed, h, cells64, deep64, Value.cells]
    obtain ⟨n, hn⟩ := size64
    rw [hn, lits64, lits3, lits3, if_pos (wf64.2 h1), if_pos (wf64.2 h2)]
    rfl
  · rename_i h
    rw [h]
    simp only [pl, Value.formed, h, cells64, deep64, Value.cells]
    obtain ⟨n, hn⟩ := size64
    rw [hn, lits64, lits3, lits3, if_pos (wf64.2 h1), if_pos (wf64.2 h2)]
    rfl
  · cases hu
theorem key_inv {v : Value} {l : Lit} (h : keyOf Try.prog 64 v = some l) : ∃ br c, v = pl br c ∧ In64 br ∧ In64 c ∧ l = kl br c := by
  have hu := wide64
  unfold keyOf at h
  have key : ∀ d : TypeDesc, Try.prog.underlying 64 = some d → (match d with | .array _ _ | .struct _ => True | _ => False) → (if Try.prog.keyType 64 && v.formed Try.prog 64 then (Try.prog.keyLits (Try.prog.types.size + 1) 64 v.cells.toList).map fun ls => Lit.string (keyBytes ls) else none) = some l → ∃ br c, v = pl br c ∧ In64 br ∧ In64 c ∧ l = kl br c := by
    intro d hd hm h
    rw [deep64, Bool.true_and] at h
    by_cases hf : v.formed Try.prog 64 = true
    · rw [if_pos hf] at h
      unfold Value.formed at hf
      cases v with
      | agg cs =>
        have hs : cs.size = 2 := by
          simp only [hd] at hf
          cases d <;> simp [cells64] at hm hf <;> exact hf
        obtain ⟨x, y, rfl⟩ : ∃ x y, cs = #[x, y] := arr2 hs
        obtain ⟨n, hn⟩ := size64
        rw [hn] at h
        simp only [Value.cells] at h
        rw [lits64] at h
        cases ha : Try.prog.keyLits (n + 1) 3 [x] with
        | none => rw [ha] at h; cases h
        | some a =>
          cases hb : Try.prog.keyLits (n + 1) 3 [y] with
          | none => rw [ha, hb] at h; cases h
          | some b =>
            rw [ha, hb] at h
            obtain ⟨x, rfl, h1, rfl⟩ := lits3_inv ha
            obtain ⟨y, rfl, h2, rfl⟩ := lits3_inv hb
            exact ⟨x, y, rfl, h1, h2, (Option.some.inj h).symm⟩
      | _ => simp only [hd] at hf; cases d <;> simp at hm hf
    · rw [if_neg hf] at h
      cases h
  split at hu
  · rename_i hd
    rw [hd] at h
    exact key _ hd trivial h
  · rename_i hd
    rw [hd] at h
    exact key _ hd trivial h
  · cases hu
theorem kl_inj {a b c d : Int} (h1 : In64 a) (h2 : In64 b) (h3 : In64 c) (h4 : In64 d) (h : kl a b = kl c d) : a = c ∧ b = d := by
  have := law.inj (key_mk h1 h2) (h ▸ key_mk h3 h4)
  simp [pl] at this
  exact this
theorem kl_key (br c : Int) : WideAt.IsKeyLit (kl br c) := trivial
/-- An element reads as itself. -/
def eR (v : Value) : Option (DataW Value × List MemPlace) := some (.held v, [])
theorem eR_inv {v : Value} {z : DataW Value × List MemPlace} (h : eR v = some z) : z = (.held v, []) := (Option.some.inj h).symm
theorem zero31 (w : World) : (zeroValue 31).run Try.prog w = .ok (.slice none 0 0) w := by kernel_rfl
theorem under58 : Try.prog.underlying 58 = some (.map 64 31) := by kernel_rfl
end Go.Proofs.Ytchoiioeeepoaaa.V19
