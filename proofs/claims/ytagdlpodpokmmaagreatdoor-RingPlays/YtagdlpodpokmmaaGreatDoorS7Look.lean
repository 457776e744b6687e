/- Look-ups and stores in the two maps of a suite of signs. -/
import Derived.Test.YtagdlpodpokmmaaGreatDoorS7Join
namespace Go.Proofs.YtagdlpodpokmmaaGreatDoor.S7
open Go.RowKit
theorem under67 : Tryz.prog.underlying 106 = some (.struct (Tryz.prog.fieldsOf 106)) := by kernel_rfl
theorem fields67' : (Tryz.prog.fieldsOf 106).toList.map (fun f => (f.name, f.type, f.offset)) = [("sort", 5, 0), ("key", 9, 1), ("text", 9, 2)] := by kernel_rfl
theorem fields67 : ∃ f g h : Field, (Tryz.prog.fieldsOf 106).toList = [f, g, h] ∧ f.name = "sort" ∧ f.type = 5 ∧ f.offset = 0 ∧ g.name = "key" ∧ g.type = 9 ∧ g.offset = 1 ∧ h.name = "text" ∧ h.type = 9 ∧ h.offset = 2 := by
  have h := fields67'
  match hl : (Tryz.prog.fieldsOf 106).toList with
  | [] => rw [hl] at h; simp at h
  | [_] => rw [hl] at h; simp at h
  | [_, _] => rw [hl] at h; simp at h
  | [f, g, k] =>
    rw [hl] at h
    simp only [List.map_cons, List.map_nil, List.cons.injEq, Prod.mk.injEq, and_true] at h
    obtain ⟨⟨a1, a2, a3⟩, ⟨b1, b2, b3⟩, c1, c2, c3⟩ := h
    exact ⟨f, g, k, rfl, a1, a2, a3, b1, b2, b3, c1, c2, c3⟩
  | _ :: _ :: _ :: _ :: _ => rw [hl] at h; simp at h
theorem held67 : Tryz.prog.stoodInHeld 106 = false := by kernel_rfl
theorem under58 : Tryz.prog.underlying 58 = some (.map 106 3) := by kernel_rfl
theorem under59 : Tryz.prog.underlying 59 = some (.map 3 89) := by kernel_rfl
theorem zero3 (w : World) : (zeroValue 3).run Tryz.prog w = .ok (.int .i64 0) w := by kernel_rfl
theorem zero79 (w : World) : (zeroValue 89).run Tryz.prog w = .ok (.agg #[.string ⟨#[]⟩, .string ⟨#[]⟩, .string ⟨#[]⟩, .string ⟨#[]⟩]) w := by kernel_rfl
/-- The comparison of two things. -/
def sameT (s : Nat) (key text : List Nat) : Value → Bool
  | .agg cs => match cs.toList with
    | [.int _ a, .string x, .string y] => ((s : Int) == a) && ((strB key).toList == x.toList) && ((strB text).toList == y.toList)
    | _ => false
  | _ => false
theorem run_eq_thing (w : World) (s s' : Nat) (k t k' t' : List Nat) : (Op.equal 106 (thingV s k t) (thingV s' k' t')).run Tryz.prog w = .ok (sameT s k t (thingV s' k' t')) w := by
  unfold Op.equal Op.maxDepth
  rw [show (10000 : Nat) = 9999 + 1 from rfl]
  unfold thingV
  obtain ⟨f, g, h, hl, f1, f2, f3, g1, g2, g3, h1, h2, h3⟩ := fields67
  rw [run_equalIn_struct w 9999 106 _ _ under67 held67, hl]
  have h5 : Tryz.prog.underlying 5 = some (.int .u8) := Tryz.underlying5
  have h9 : Tryz.prog.underlying 9 = some .string := Tryz.underlying9
  have e1 : ∀ a b : Int, (Op.equalIn 9999 5 (.int .u8 a) (.int .u8 b)).run Tryz.prog w = .ok (a == b) w := fun a b => run_equalIn_int w 9998 5 .u8 .u8 a b h5
  have e2 : ∀ a b : ByteArray, (Op.equalIn 9999 9 (.string a) (.string b)).run Tryz.prog w = .ok (a.toList == b.toList) w := fun a b => run_equalIn_string w 9998 9 a b h9
  simp only [Op.eqFields]
  simp [part, isAgg, run_underlying h5, run_underlying h9, e1, e2, sameT, f1, f2, f3, g1, g2, g3, h1, h2, h3]
  generalize (s : Int) = x
  generalize (s' : Int) = y
  by_cases a1 : x = y <;> by_cases a2 : (strB k).toList = (strB k').toList <;> by_cases a3 : (strB t).toList = (strB t').toList <;> simp [a1, a2, a3]
theorem check_u8 (w : World) (em : Bool) (n : Nat) (a : Int) : (Instr.checkKey em (n + 1) 5 (.int .u8 a)).run Tryz.prog w = .ok () w := by
  have h5 : Tryz.prog.underlying 5 = some (.int .u8) := Tryz.underlying5
  simp [Instr.checkKey, run_underlying h5]
theorem check_i64 (w : World) (em : Bool) (n : Nat) (a : Int) : (Instr.checkKey em (n + 1) 3 (.int .i64 a)).run Tryz.prog w = .ok () w := by
  have h5 : Tryz.prog.underlying 3 = some (.int .i64) := Tryz.underlying3
  simp [Instr.checkKey, run_underlying h5]
theorem check_str (w : World) (em : Bool) (n : Nat) (a : ByteArray) : (Instr.checkKey em (n + 1) 9 (.string a)).run Tryz.prog w = .ok () w := by
  have h9 : Tryz.prog.underlying 9 = some .string := Tryz.underlying9
  simp [Instr.checkKey, run_underlying h9]
theorem check_thing (w : World) (em : Bool) (n : Nat) (s : Nat) (k t : List Nat) : (Instr.checkKey em (n + 1 + 1) 106 (thingV s k t)).run Tryz.prog w = .ok () w := by
  unfold thingV
  obtain ⟨f, g, h, hl, f1, f2, f3, g1, g2, g3, h1, h2, h3⟩ := fields67
  have h5 : Tryz.prog.underlying 5 = some (.int .u8) := Tryz.underlying5
  have h9 : Tryz.prog.underlying 9 = some .string := Tryz.underlying9
  have e1 := check_u8 w em n
  have e2 := check_str w em n
  rw [Instr.checkKey]
  simp only [Sem.run_bind, run_underlying under67, Result.andThen_ok]
  rw [← Array.forIn_toList, hl]
  simp [part, isAgg, run_underlying h5, run_underlying h9, e1, e2, f1, f2, f3, g1, g2, g3, h1, h2, h3]
theorem run_check_thing (w : World) (em : Bool) (s : Nat) (k t : List Nat) : (Instr.checkKey em 10000 106 (thingV s k t)).run Tryz.prog w = .ok () w := check_thing w em 9998 s k t
theorem run_check_int (w : World) (em : Bool) (a : Int) : (Instr.checkKey em 10000 3 (.int .i64 a)).run Tryz.prog w = .ok () w := check_i64 w em 9999 a
/-- A key of the map of numbers, and of the boxes'. -/
def sameN (N : Int) : Value → Bool
  | .int _ a => N == a
  | _ => false
theorem find_thing (w : World) (s : Nat) (k t : List Nat) (es : List MapEntry) (h : ∀ e ∈ es, ∃ s' k' t', e.key = thingV s' k' t') :
    ∃ r, (Instr.findKey 106 (thingV s k t) es).run Tryz.prog w = .ok r w ∧ r.map (·.2) = look (sameT s k t) (es.map (fun e => (e.key, e.val))) := by
  obtain ⟨r, h1, h2⟩ := run_findAsking (P := Tryz.prog) (w := w) (k := 106) (key := thingV s k t) (same := sameT s k t) es 0 (fun e he => by
    obtain ⟨s', k', t', e1⟩ := h e he
    rw [e1]
    exact run_eq_thing w s s' k t k' t')
  refine ⟨r, ?_, h2⟩
  cases es with
  | nil =>
    simp [Instr.findAsking] at h1
    subst h1
    simp [Instr.findKey, run_underlying under67, Instr.findNow]
  | cons e es =>
    have hn : Instr.findNow (.struct (Tryz.prog.fieldsOf 106)) (thingV s k t) (e :: es) 0 = none := by
      simp [Instr.findNow, Instr.sameNow]
    simp [Instr.findKey, run_underlying under67, hn, h1]
theorem findNow_int (N : Int) : ∀ (es : List MapEntry) (i : Nat), (∀ e ∈ es, ∃ a, e.key = .int .i64 a) → ∃ r, Instr.findNow (.int .i64) (.int .i64 N) es i = some r ∧ r.map (·.2) = look (sameN N) (es.map (fun e => (e.key, e.val)))
  | [], _, _ => ⟨none, rfl, rfl⟩
  | e :: es, i, h => by
    obtain ⟨a, ha⟩ := h e (by simp)
    obtain ⟨r, h1, h2⟩ := findNow_int N es (i + 1) (fun x hx => h x (by simp [hx]))
    by_cases hN : N = a
    · exact ⟨some (i, e.val), by simp [Instr.findNow, Instr.sameNow, ha, hN], by simp [look, sameN, ha, hN]⟩
    · have hb : (N == a) = false := by simp [hN]
      exact ⟨r, by simp only [Instr.findNow, Instr.sameNow, ha, if_true, hb, h1], by simp [look, sameN, ha, hN, h2]⟩
theorem find_int (w : World) (N : Int) (es : List MapEntry) (h : ∀ e ∈ es, ∃ a, e.key = .int .i64 a) :
    ∃ r, (Instr.findKey 3 (.int .i64 N) es).run Tryz.prog w = .ok r w ∧ r.map (·.2) = look (sameN N) (es.map (fun e => (e.key, e.val))) := by
  obtain ⟨r, h1, h2⟩ := findNow_int N es 0 h
  have h3 : Tryz.prog.underlying 3 = some (.int .i64) := Tryz.underlying3
  exact ⟨r, by simp [Instr.findKey, run_underlying h3, h1], h2⟩
end Go.Proofs.YtagdlpodpokmmaaGreatDoor.S7
