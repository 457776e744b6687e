/- What is found in the maps of a suite of signs, in the list's words; what is put. -/
import Derived.Test.YtagdlpodpokmmaaGreatDoorS7Look
namespace Go.Proofs.YtagdlpodpokmmaaGreatDoor.S7
open Go.RowKit
theorem sameT_eq {s s' : Nat} {k t k' t' : List Nat} (hk : ∀ x ∈ k, x < 256) (ht : ∀ x ∈ t, x < 256) (hk' : ∀ x ∈ k', x < 256) (ht' : ∀ x ∈ t', x < 256) : sameT s k t (thingV s' k' t') = decide (s' = s ∧ k' = k ∧ t' = t) := by
  unfold sameT thingV
  simp only
  rw [strB_beqL hk hk', strB_beqL ht ht']
  by_cases a1 : s = s' <;> by_cases a2 : k = k' <;> by_cases a3 : t = t'
  · subst a1 a2 a3; simp
  · subst a1 a2; simp [a3, Ne.symm a3]
  · subst a1 a3; simp [a2, Ne.symm a2]
  · subst a1; simp [a3, a2, Ne.symm a3]
  · subst a2 a3; simp [Ne.symm a1]; omega
  · subst a2; simp [a3, Ne.symm a1]
  · subst a3; simp [a2, Ne.symm a1]
  · simp [a3, Ne.symm a1]
theorem look_nums {s : Nat} {k t : List Nat} (hs : s = 72 ∨ s = 77) (hk : ∀ x ∈ k, x < 256) (ht : ∀ x ∈ t, x < 256) : ∀ (n : Nat) (L : List Su.Thing), (∀ u ∈ L, Fine u) → look (sameT s k t) (nums n L) = (Su.pos s k t n L).map (fun i => .int .i64 (i : Int))
  | _, [], _ => rfl
  | n, u :: r, hf => by
    have hu := hf u (by simp)
    have ih := look_nums hs hk ht (n + 1) r (fun x hx => hf x (by simp [hx]))
    simp only [nums, Su.pos]
    by_cases h1 : u.1 = 72 ∨ u.1 = 77
    · rw [if_pos h1]
      simp only [look]
      rw [sameT_eq hk ht hu.1 hu.2.2.2]
      by_cases h2 : u.1 = s ∧ u.2.1 = k ∧ u.2.2.2.2 = t
      · rw [if_pos h2, decide_eq_true h2]; rfl
      · rw [if_neg h2, decide_eq_false h2, ih]; rfl
    · rw [if_neg h1, ih, if_neg]
      rintro ⟨h2, _⟩
      apply h1
      rw [h2]
      exact hs
theorem look_boxes {N : Int} : ∀ (n : Nat) (L : List Su.Thing), look (sameN N) (boxes n L) = (Su.boxAt N n L).map contentV
  | _, [] => rfl
  | n, u :: r => by
    have ih := look_boxes (N := N) (n + 1) r
    simp only [boxes, Su.boxAt]
    by_cases h1 : u.1 = 66
    · rw [if_pos h1]
      have e : sameN N (.int .i64 ((n + 1 : Nat) : Int)) = (N == ((n + 1 : Nat) : Int)) := rfl
      simp only [look]
      rw [e]
      by_cases h2 : N = ((n + 1 : Nat) : Int)
      · rw [beq_iff_eq.2 h2, if_pos rfl, if_pos ⟨h1, h2⟩]; rfl
      · rw [beq_eq_false_iff_ne.2 h2, if_neg (by decide), if_neg (fun h => h2 h.2), ih]
    · rw [if_neg h1, if_neg (fun h => h1 h.1), ih]
theorem keys_nums : ∀ (n : Nat) (L : List Su.Thing), ∀ e ∈ nums n L, ∃ s k t, e.1 = thingV s k t
  | _, [], e, h => by simp [nums] at h
  | n, u :: r, e, h => by
    simp only [nums] at h
    split at h
    · rcases List.mem_cons.1 h with rfl | h
      · exact ⟨_, _, _, rfl⟩
      · exact keys_nums _ _ e h
    · exact keys_nums _ _ e h
theorem keys_boxes : ∀ (n : Nat) (L : List Su.Thing), ∀ e ∈ boxes n L, ∃ a, e.1 = .int .i64 a
  | _, [], e, h => by simp [boxes] at h
  | n, u :: r, e, h => by
    simp only [boxes] at h
    split at h
    · rcases List.mem_cons.1 h with rfl | h
      · exact ⟨_, rfl⟩
      · exact keys_boxes _ _ e h
    · exact keys_boxes _ _ e h
section
variable {w : World} {b : Nat} {L : List Su.Thing}
theorem lookup_nums {s : Nat} {k t : List Nat} (h : MapIs w b (nums 0 L)) (hf : ∀ u ∈ L, Fine u) (hs : s = 72 ∨ s = 77) (hk : ∀ x ∈ k, x < 256) (ht : ∀ x ∈ t, x < 256) :
    (Instr.lookup 58 (.map (some b)) (thingV s k t) true).run Tryz.prog w = .ok (match Su.pos s k t 0 L with | some i => .tuple #[.int .i64 (i : Int), .bool true] | none => .tuple #[.int .i64 0, .bool false]) w := by
  obtain ⟨es, c, hb, he⟩ := h
  obtain ⟨r, h1, h2⟩ := find_thing w s k t es.toList (fun e hx => keys_nums 0 L (e.key, e.val) (by rw [← he]; exact List.mem_map.2 ⟨e, hx, rfl⟩))
  have h3 := run_look (P := Tryz.prog) under58 hb (run_check_thing w es.isEmpty s k t) h1 (zero3 w)
  rw [he, look_nums hs hk ht 0 L hf] at h2
  rw [h3, h2]
  cases Su.pos s k t 0 L <;> rfl
theorem lookup_boxes {N : Int} (h : MapIs w b (boxes 0 L)) :
    (Instr.lookup 59 (.map (some b)) (.int .i64 N) true).run Tryz.prog w = .ok (match Su.boxAt N 0 L with | some u => .tuple #[contentV u, .bool true] | none => .tuple #[.agg #[.string ⟨#[]⟩, .string ⟨#[]⟩, .string ⟨#[]⟩, .string ⟨#[]⟩], .bool false]) w := by
  obtain ⟨es, c, hb, he⟩ := h
  obtain ⟨r, h1, h2⟩ := find_int w N es.toList (fun e hx => keys_boxes 0 L (e.key, e.val) (by rw [← he]; exact List.mem_map.2 ⟨e, hx, rfl⟩))
  have h3 := run_look (P := Tryz.prog) under59 hb (run_check_int w es.isEmpty N) h1 (zero79 w)
  rw [he, look_boxes 0 L] at h2
  rw [h3, h2]
  cases Su.boxAt N 0 L <;> rfl
theorem setBlock_is {es : Array MapEntry} {c : Nat} {l : List (Value × Value)} {key val : Value} (hb : w.heap[b]? = some (.map es c)) (he : es.toList.map (fun e => (e.key, e.val)) = l) :
    MapIs (ChangeMaps.setBlock w b (.map (es.push ⟨key, val, c⟩) (c + 1))) b (l ++ [(key, val)]) ∧ w.grownBy (ChangeMaps.setBlock w b (.map (es.push ⟨key, val, c⟩) (c + 1))) (some b) :=
  ⟨⟨_, _, ChangeMaps.heap_setBlock_same hb _, by rw [← he]; simp⟩, ⟨rfl, rfl, rfl, by simp [ChangeMaps.setBlock], fun i _ hi => ChangeMaps.heap_setBlock_other hb _ (fun e => hi (by rw [e]))⟩⟩
theorem put_nums {s : Nat} {k t : List Nat} {val : Value} (h : MapIs w b (nums 0 L)) (hf : ∀ u ∈ L, Fine u) (hs : s = 72 ∨ s = 77) (hk : ∀ x ∈ k, x < 256) (ht : ∀ x ∈ t, x < 256) (hp : Su.pos s k t 0 L = none) :
    ∃ w', (Instr.mapUpdate 58 (.map (some b)) (thingV s k t) val).run Tryz.prog w = .ok () w' ∧ MapIs w' b (nums 0 L ++ [(thingV s k t, val)]) ∧ w.grownBy w' (some b) := by
  obtain ⟨es, c, hb, he⟩ := h
  obtain ⟨r, h1, h2⟩ := find_thing w s k t es.toList (fun e hx => keys_nums 0 L (e.key, e.val) (by rw [← he]; exact List.mem_map.2 ⟨e, hx, rfl⟩))
  rw [he, look_nums hs hk ht 0 L hf, hp] at h2
  obtain rfl : r = none := by cases r with
    | none => rfl
    | some q => cases h2
  exact ⟨_, run_put (P := Tryz.prog) under58 hb (run_check_thing w false s k t) h1, setBlock_is hb he⟩
theorem put_boxes {N : Int} {val : Value} (h : MapIs w b (boxes 0 L)) (hp : Su.boxAt N 0 L = none) :
    ∃ w', (Instr.mapUpdate 59 (.map (some b)) (.int .i64 N) val).run Tryz.prog w = .ok () w' ∧ MapIs w' b (boxes 0 L ++ [(.int .i64 N, val)]) ∧ w.grownBy w' (some b) := by
  obtain ⟨es, c, hb, he⟩ := h
  obtain ⟨r, h1, h2⟩ := find_int w N es.toList (fun e hx => keys_boxes 0 L (e.key, e.val) (by rw [← he]; exact List.mem_map.2 ⟨e, hx, rfl⟩))
  rw [he, look_boxes 0 L, hp] at h2
  obtain rfl : r = none := by cases r with
    | none => rfl
    | some q => cases h2
  exact ⟨_, run_put (P := Tryz.prog) under59 hb (run_check_int w false N) h1, setBlock_is hb he⟩
theorem boxAt_new (L : List Su.Thing) : Su.boxAt ((L.length : Int) + 1) 0 L = none := by
  cases h : Su.boxAt ((L.length : Int) + 1) 0 L with
  | none => rfl
  | some t => have := Su.boxAt_le 0 L t h; omega
end
end Go.Proofs.YtagdlpodpokmmaaGreatDoor.S7
