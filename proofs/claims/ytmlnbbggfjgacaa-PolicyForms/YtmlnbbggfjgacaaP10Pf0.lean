/- When a policy is right, as PolicyForms reckons it; a policy that comes in. -/
import Derived.Test.YtmlnbbggfjgacaaP10Gr1
import Derived.Test.YtmlnbbggfjgacaaE9Args
namespace Go.Proofs.Ytmlnbbggfjgacaa.P10
open Go.RowKit Go.ChangeShapes Go.WideShapes C8 E9
/-- The member at a place. -/
def mAt (ms : List (Int × Int)) (k : Nat) : Int × Int := ms.getD k (0, 0)
/-- What is asked of the member at a place. -/
def mC (ms : List (Int × Int)) (k : Nat) : Prop := 1 ≤ (mAt ms k).1 ∧ (mAt ms k).1 ≤ 16 ∧ 1 ≤ (mAt ms k).2 ∧ (mAt ms k).2 ≤ 7 ∧ (k = 0 ∨ (mAt ms (k - 1)).1 < (mAt ms k).1)
def wk (f e : Int) (ms : List (Int × Int)) : Nat → Bool
  | 0 => decide (1 ≤ f ∧ f ≤ 16 ∧ 0 ≤ e ∧ e ≤ 16)
  | k + 1 => wk f e ms k && decide (1 ≤ (mAt ms k).1 ∧ (mAt ms k).1 ≤ 16 ∧ 1 ≤ (mAt ms k).2 ∧ (mAt ms k).2 ≤ 7 ∧ (k = 0 ∨ (mAt ms (k - 1)).1 < (mAt ms k).1))
def fk (f : Int) (ms : List (Int × Int)) : Nat → Bool
  | 0 => false
  | k + 1 => fk f ms k || decide ((mAt ms k).1 = f ∧ (mAt ms k).2 = 7)
theorem wk_iff (f e : Int) (ms : List (Int × Int)) : ∀ k, wk f e ms k = true ↔ (1 ≤ f ∧ f ≤ 16 ∧ 0 ≤ e ∧ e ≤ 16) ∧ ∀ i, i < k → mC ms i
  | 0 => by simp [wk]
  | k + 1 => by
    rw [wk, Bool.and_eq_true, wk_iff f e ms k, decide_eq_true_eq]
    constructor
    · rintro ⟨⟨h1, h2⟩, h3⟩
      refine ⟨h1, fun i hi => ?_⟩
      rcases Nat.lt_succ_iff_lt_or_eq.1 hi with h | rfl
      · exact h2 i h
      · exact h3
    · rintro ⟨h1, h2⟩
      exact ⟨⟨h1, fun i hi => h2 i (by omega)⟩, h2 k (by omega)⟩
theorem fk_iff (f : Int) (ms : List (Int × Int)) : ∀ k, fk f ms k = true ↔ ∃ i, i < k ∧ (mAt ms i).1 = f ∧ (mAt ms i).2 = 7
  | 0 => by simp [fk]
  | k + 1 => by
    rw [fk, Bool.or_eq_true, fk_iff f ms k, decide_eq_true_eq]
    constructor
    · rintro (⟨i, h1, h2⟩ | h)
      · exact ⟨i, by omega, h2⟩
      · exact ⟨k, by omega, h⟩
    · rintro ⟨i, h1, h2⟩
      rcases Nat.lt_succ_iff_lt_or_eq.1 h1 with h | rfl
      · exact .inl ⟨i, h, h2⟩
      · exact .inr h2
theorem mok_iff : ∀ (ms : List (Int × Int)) (last : Int), mok last ms = true ↔ ∀ i, i < ms.length → (if i = 0 then last else (mAt ms (i - 1)).1) < (mAt ms i).1 ∧ (mAt ms i).1 ≤ 16 ∧ 1 ≤ (mAt ms i).2 ∧ (mAt ms i).2 ≤ 7
  | [], last => by simp [mok]
  | m :: r, last => by
    rw [mok, Bool.and_eq_true, Bool.and_eq_true, decide_eq_true_eq, decide_eq_true_eq, mok_iff r m.1]
    constructor
    · rintro ⟨⟨h1, h2⟩, h3⟩ i hi
      match i with
      | 0 => simp [mAt]; omega
      | i + 1 =>
        have := h3 i (by simpa using hi)
        match i with
        | 0 => simpa [mAt] using this
        | i + 1 => simpa [mAt] using this
    · intro h
      have h0 := h 0 (by simp)
      simp [mAt] at h0
      refine ⟨⟨by omega, by omega⟩, fun i hi => ?_⟩
      have := h (i + 1) (by simpa using hi)
      match i with
      | 0 => simpa [mAt] using this
      | i + 1 => simpa [mAt] using this
theorem rts_seven {f : Int} : ∀ {ms : List (Int × Int)}, rts ms f = 7 → (f, 7) ∈ ms
  | [], h => by simp [rts] at h
  | m :: r, h => by
    rw [rts] at h
    by_cases e : m.1 = f
    · rw [if_pos e] at h
      have : m = (f, 7) := by cases m; simp_all
      rw [this]; exact List.mem_cons_self
    · rw [if_neg e] at h
      exact List.mem_cons_of_mem _ (rts_seven h)
theorem forms_eq (p : Pol) : pright p = (wk p.f p.e p.ms p.ms.length && fk p.f p.ms p.ms.length) := by
  have hm : mok 0 p.ms = true ↔ ∀ i, i < p.ms.length → mC p.ms i := by
    rw [mok_iff]
    constructor
    · intro h i
      induction i with
      | zero => intro hi; have := h 0 hi; simp at this; exact ⟨by omega, by omega, by omega, by omega, .inl rfl⟩
      | succ i ih =>
        intro hi
        have h1 := ih (by omega)
        have h2 := h (i + 1) hi
        simp at h2
        exact ⟨by have := h1.1; omega, by omega, by omega, by omega, .inr (by simpa using h2.1)⟩
    · intro h i hi
      obtain ⟨h1, h2, h3, h4, h5⟩ := h i hi
      refine ⟨?_, h2, h3, h4⟩
      by_cases e : i = 0
      · rw [if_pos e]; omega
      · rw [if_neg e]; exact h5.resolve_left e
  have hs : mok 0 p.ms = true → (rts p.ms p.f = 7 ↔ ∃ i, i < p.ms.length ∧ (mAt p.ms i).1 = p.f ∧ (mAt p.ms i).2 = 7) := fun h => by
    constructor
    · intro h7
      obtain ⟨i, hi, e⟩ := List.getElem_of_mem (rts_seven h7)
      exact ⟨i, hi, by simp [mAt, List.getD_eq_getElem?_getD, List.getElem?_eq_getElem hi, e]⟩
    · rintro ⟨i, hi, h1, h2⟩
      have e : mAt p.ms i = p.ms[i] := by simp [mAt, List.getD_eq_getElem?_getD, List.getElem?_eq_getElem hi]
      have := rts_mem (rise_nodup (mok_rise h)) p.ms[i] (List.getElem_mem hi)
      rw [← e, h1, h2] at this
      exact this
  rw [Bool.eq_iff_iff, Bool.and_eq_true, wk_iff, fk_iff, ← hm]
  unfold pright
  simp only [Bool.and_eq_true, decide_eq_true_eq]
  constructor
  · rintro ⟨⟨⟨h1, h2⟩, h3⟩, h4⟩
    exact ⟨⟨⟨h1.1, h1.2, h2.1, h2.2⟩, h3⟩, (hs h3).1 h4⟩
  · rintro ⟨⟨h1, h3⟩, h4⟩
    exact ⟨⟨⟨⟨h1.1, h1.2.1⟩, ⟨h1.2.2.1, h1.2.2.2⟩⟩, h3⟩, (hs h3).2 h4⟩
section
variable {H : Type} {enc : TypeId × Value → H} {P : Program} {w : World} {base : Nat} {held : Bool}
theorem mb_of {t e : TypeId} {f0 f1 : Field} {fuel : Nat} {a : Option Addr} {len cap : Nat} {x : DataW H × List MemPlace} (ht : P.underlying t = some (.slice e)) (he : P.underlying e = some (.struct #[f0, f1]))
    (ce : P.cellsOf e = 2) (o0 : f0.offset = 0) (o1 : f1.offset = 1) (c0 : P.cellsOf f0.type = 1) (c1 : P.cellsOf f1.type = 1) (t0 : P.underlying f0.type = some (.int .i64)) (t1 : P.underlying f1.type = some (.int .i64))
    (h : DataW.trod enc P w base (fun _ => true) held fuel t [Value.slice a len cap] = some x) : len ≤ 9223372036854775807 ∧ ∃ ms : List (Int × Int), ms.length = len ∧ Mb w a ms := by
  obtain ⟨hlen, hx⟩ := open_pairs ht he ce o0 o1 c0 c1 h
  refine ⟨hlen, ?_⟩
  have each : ∀ i, i < len → ∃ q : Int × Int, ∃ b o, a = some ⟨b, o, none⟩ ∧ b < w.heap.size ∧ w.cell? ⟨b, o + i * 2, none⟩ = some (.int .i64 q.1) ∧ w.cell? ⟨b, o + i * 2 + 1, none⟩ = some (.int .i64 q.2) := by
    intro i hi
    obtain ⟨ad0, _, z0, _, _, _, ea0, hz0, _⟩ := hx 0 (by omega)
    rw [Nat.zero_mul, add_nought] at hz0
    have hsp := spot_of hz0
    obtain ⟨ad, n, v0, v1, y0, y1, ea, k0, k1, g0, g1⟩ := hx i hi
    rw [ea0] at ea
    obtain rfl := Option.some.inj ea
    obtain ⟨b, o, s⟩ := ad0
    simp only at hsp
    subst hsp
    obtain ⟨n1, e1, _, _⟩ := DataW.trod_int t0 g0
    obtain ⟨n2, e2, _, _⟩ := DataW.trod_int t1 g1
    simp only [List.cons.injEq, and_true] at e1 e2
    subst e1 e2
    rw [Addr.add_mid] at k0 k1
    exact ⟨(n1, n2), b, o, ea0, World.block_lt_of_cell? w _ hz0, k0, by rw [Nat.add_assoc]; exact k1⟩
  obtain ⟨f, hf⟩ := Go.Deep.choose_lt each
  refine ⟨(List.range len).map f, by simp, fun j hj => ?_⟩
  have hj' : j < len := by simpa using hj
  obtain ⟨b, o, h1, h2, h3, h4⟩ := hf j hj'
  exact ⟨b, o, h1, h2, by simpa using h3, by simpa using h4⟩
theorem polIs_of {r : Reach} {b0 : Nat} {t e2 : TypeId} {f0 f1 f2 g0 g1 : Field} {v : Value} {d : DataW H} {p : List MemPlace} (hs : P.underlying t = some (.struct #[f0, f1, f2])) (hC : P.cellsOf t = 3)
    (o0 : f0.offset = 0) (o1 : f1.offset = 1) (o2 : f2.offset = 2) (c0 : P.cellsOf f0.type = 1) (c1 : P.cellsOf f1.type = 1) (c2 : P.cellsOf f2.type = 1) (t0_ : P.underlying f0.type = some (.int .i64)) (t1_ : P.underlying f1.type = some (.int .i64)) (t2_ : P.underlying f2.type = some (.slice e2))
    (he : P.underlying e2 = some (.struct #[g0, g1])) (ce : P.cellsOf e2 = 2) (q0 : g0.offset = 0) (q1 : g1.offset = 1) (r0 : P.cellsOf g0.type = 1) (r1 : P.cellsOf g1.type = 1) (u0 : P.underlying g0.type = some (.int .i64)) (u1 : P.underlying g1.type = some (.int .i64))
    (hv : Value.okWide P w r b0 t v) (h : DataW.Trod enc P w base (fun _ => true) held t v d p) : ∃ a, PolIs w v a := by
  obtain ⟨cs, rfl, hsz⟩ := okWide_struct hs hv
  obtain ⟨fuel, hf⟩ := h
  have hlen : cs.toList.length = 3 := by rw [Array.length_toList]; exact hsz.trans hC
  obtain ⟨xs, k, hk, hxy, _, hxl, hx⟩ := DataW.trod_struct hs hf
  have hcs : (Value.agg cs).cells.toList = cs.toList := rfl
  rw [hcs] at hx
  obtain ⟨l, rfl⟩ : ∃ l, cs = ⟨l⟩ := ⟨cs.toList, rfl⟩
  simp only at hlen hx
  match xs, hxl, l, hlen with
  | [y0, y1, y2], _, [x0, x1, x2], _ =>
    have k0 := hx 0 f0 rfl
    have k1 := hx 1 f1 rfl
    have k2 := hx 2 f2 rfl
    simp [o0, o1, o2, c0, c1, c2] at k0 k1 k2
    obtain ⟨n0, e0, _, _⟩ := DataW.trod_int t0_ k0
    obtain ⟨n1, e1, _, _⟩ := DataW.trod_int t1_ k1
    obtain ⟨q8, ln8, cp8, e8'⟩ : ∃ q n c, x2 = .slice q n c := by
      rcases Go.Deep.open_slice t2_ k2 with ⟨hcs, _⟩ | ⟨ad, l, c, m, n, D, Pl, hcs, _⟩
      · simp only [List.cons.injEq, and_true] at hcs
        exact ⟨_, _, _, hcs⟩
      · simp only [List.cons.injEq, and_true] at hcs
        exact ⟨_, _, _, hcs⟩
    subst e8'
    obtain ⟨hw1, ms, hw2, hw3⟩ := mb_of t2_ he ce q0 q1 r0 r1 u0 u1 k2
    simp only [List.cons.injEq, and_true] at e0 e1
    subst e0 e1 hw2
    exact ⟨⟨n0, n1, ms⟩, q8, cp8, rfl, hw3, hw1⟩
end
end Go.Proofs.Ytmlnbbggfjgacaa.P10
