/- What comes in: slices of bytes, slices of such. -/
import Derived.Test.YtkiohhkmlpgdoaaDoorC12Two
import Derived.WideKeyArr2
import Derived.OpenShut
import Derived.Deep.Slices
import Derived.ChangeArms
import Derived.ChangeSame
namespace Go.Proofs.YtkiohhkmlpgdoaaDoor.S7
open Go.RowKit Go.ChangeShapes Go.WideShapes
/-- Bytes that lie below a place. -/
def Old (B : Nat) (w : World) (v : Value) (l : List Nat) : Prop := Src w v l ∧ (l ≠ [] → ∀ b, v.ownBlock = some b → b < B)
section
variable {w w' : World} {B : Nat} {v : Value} {l : List Nat}
theorem ints_ne {k : IntKind} (h : l ≠ []) : ints k l ≠ [] := by
  intro e
  apply h
  have := congrArg List.length e
  rw [ints_length] at this
  exact List.eq_nil_of_length_eq_zero this
theorem Old.of (h : Src w v l) : Old w.heap.size w v l := by
  refine ⟨h, fun h0 b hb => ?_⟩
  obtain ⟨_, ⟨rfl, rfl⟩ | ⟨_, _, rfl, rfl⟩ | ⟨g, o, c, rfl, _, hr⟩⟩ := h
  · exact absurd rfl h0
  · exact absurd rfl h0
  · cases hb
    exact range_lt hr (ints_ne h0)
theorem Old.keep (h : Old B w v l) (hb : Below B w w') : Old B w' v l := by
  refine ⟨?_, h.2⟩
  obtain ⟨⟨hs, h1 | h1 | ⟨g, o, c, rfl, hc, hr⟩⟩, h2⟩ := h
  · exact ⟨hs, .inl h1⟩
  · exact ⟨hs, .inr (.inl h1)⟩
  · by_cases h0 : l = []
    · subst h0
      exact ⟨hs, .inr (.inl ⟨_, _, rfl, rfl⟩)⟩
    · exact ⟨hs, .inr (.inr ⟨g, o, c, rfl, hc, range_kept hr (hb.block g (h2 h0 g rfl))⟩)⟩
theorem Old.up {B' : Nat} (h : Old B w v l) (hB : B ≤ B') : Old B' w v l := ⟨h.1, fun h0 b hb => Nat.lt_of_lt_of_le (h.2 h0 b hb) hB⟩
theorem Old.only {bs : List Nat} (h : Old B w v l) (ho : Only bs w w') (hB : B ≤ w.heap.size) (hs : ∀ y ∈ bs, B ≤ y) : Old B w' v l := h.keep (ho.below hB hs)
end
/-- A slice of bytes that came in: it is empty with no room; or it leads to a row of bytes. -/
def RowIs (w : World) (a : Option Addr) (len cap : Nat) : Prop :=
  (len = 0 ∧ cap = 0) ∨ ∃ b o l, a = some ⟨b, o, none⟩ ∧ l.length = len ∧ len ≤ cap ∧ cap ≤ 9223372036854775807 ∧ (∀ x ∈ l, x < 256) ∧ w.rangeAt b o (ints .u8 l) ∧ b < w.heap.size
theorem rowIs_nil (w : World) (a : Option Addr) : RowIs w a 0 0 := .inl ⟨rfl, rfl⟩
theorem RowIs.max {w : World} {a : Option Addr} {len cap : Nat} (h : RowIs w a len cap) : len ≤ 9223372036854775807 := by
  rcases h with ⟨rfl, rfl⟩ | ⟨b, o, l, rfl, hl, hc, hm, hs, hr, hb⟩ <;> omega
theorem rowIs_of {w : World} {x : Addr} {len cap : Nat} {zs : List Int} (hl : len ≤ cap) (hm : cap ≤ maxLen) (hz : zs.length = cap)
    (hcell : ∀ i, i < zs.length → w.cell? (x.add i) = some (.int .u8 (zs.getD i 0))) (hwz : ∀ n ∈ zs, (Lit.int .u8 n).wf = true) : RowIs w (some x) len cap := by
  by_cases hc : cap = 0
  · exact .inl ⟨by omega, hc⟩
  · have h0 := hcell 0 (by omega)
    have hx0 : x.add 0 = x := by obtain ⟨b, o, s⟩ := x; unfold Addr.add; split <;> simp_all
    have hsp : x.spot = none := by
      rw [hx0] at h0
      cases hs : x.spot with
      | none => rfl
      | some q =>
        unfold World.cell? at h0
        split at h0
        · simp [hs] at h0
        · cases h0
    obtain ⟨b, o, s⟩ := x
    simp only at hsp
    subst hsp
    have hbd : ∀ n ∈ zs, 0 ≤ n ∧ n ≤ 255 := fun n hn => by
      have := hwz n hn
      simp [Lit.wf, IntKind.min, IntKind.max, IntKind.bits, IntKind.signed] at this
      omega
    refine .inr ⟨b, o, (zs.take len).map Int.toNat, rfl, by simp; omega, hl, by unfold maxLen at hm; omega, fun y hy => ?_, fun j v hv => ?_, ?_⟩
    · obtain ⟨n, hn, rfl⟩ := List.mem_map.1 hy
      have := hbd n (List.mem_of_mem_take hn)
      omega
    · have hj : j < len := by
        have := (List.getElem?_eq_some_iff.1 hv).1
        simp [ints] at this
        omega
      have hj' : j < zs.length := by omega
      have h1 := hcell j hj'
      rw [Addr.add_mid] at h1
      rw [h1, ← hv]
      have := hbd zs[j] (List.getElem_mem hj')
      simp [ints, hj, hj']
      omega
    · have := World.block_lt_of_cell? w _ (by rw [hx0] at h0; exact h0)
      exact this
theorem Src.of {w : World} {a : Option Addr} {len cap : Nat} (h : RowIs w a len cap) : ∃ l, l.length = len ∧ Src w (.slice a len cap) l := by
  rcases h with ⟨rfl, rfl⟩ | ⟨b, o, l, rfl, hl, hc, hm, hs, hr, hb⟩
  · refine ⟨[], rfl, fun x hx => by simp at hx, ?_⟩
    cases a with
    | none => exact .inl ⟨rfl, rfl⟩
    | some x => exact .inr (.inl ⟨_, _, rfl, rfl⟩)
  · exact ⟨l, hl, Src.row hs (by omega) hr hl⟩
def RowsIs (w : World) (q : Option Addr) (ls : List (List Nat)) : Prop :=
  ∀ j (h : j < ls.length), ∃ b o sv, q = some ⟨b, o, none⟩ ∧ b < w.heap.size ∧ w.cell? ⟨b, o + j, none⟩ = some sv ∧ Old w.heap.size w sv ls[j] ∧ ls[j].length ≤ 9223372036854775807
theorem RowsIs.below {w w' : World} {q : Option Addr} {ls : List (List Nat)} (h : RowsIs w q ls) (hb : Below w.heap.size w w') : ∀ j (hj : j < ls.length), ∃ b o sv, q = some ⟨b, o, none⟩ ∧ b < w.heap.size ∧ w'.cell? ⟨b, o + j, none⟩ = some sv ∧ Old w.heap.size w' sv ls[j] ∧ ls[j].length ≤ 9223372036854775807 := fun j hj => by
  obtain ⟨b, o, sv, h1, h2, h3, h4, h5⟩ := h j hj
  exact ⟨b, o, sv, h1, h2, (hb.cell (p := ⟨b, o + j, none⟩) h2).trans h3, h4.keep hb, h5⟩
section
variable {H : Type} {enc : TypeId × Value → H} {P : Program} {w : World} {base : Nat} {held : Bool}
theorem add_nought (ad : Addr) : ad.add 0 = ad := by obtain ⟨b, o, s⟩ := ad; unfold Addr.add; split <;> simp_all
theorem spot_of {ad : Addr} {v : Value} (h : w.cell? ad = some v) : ad.spot = none := by
  cases hs : ad.spot with
  | none => rfl
  | some q =>
    unfold World.cell? at h
    split at h
    · simp [hs] at h
    · cases h
theorem rowIs_trod {t e : TypeId} {fuel : Nat} {v : Value} {x : DataW H × List MemPlace} (ht : P.underlying t = some (.slice e)) (he : P.underlying e = some (.int .u8)) (hc : P.cellsOf e = 1)
    (h : DataW.trod enc P w base (fun _ => true) held fuel t [v] = some x) : ∃ a len cap, v = .slice a len cap ∧ RowIs w a len cap := by
  rcases open_ints ht he hc h with ⟨hcs, _⟩ | ⟨x, l, c, zs, hcs, _, hl, hm, hz, _, hcell, hwz⟩
  · simp only [List.cons.injEq, and_true] at hcs
    exact ⟨none, 0, 0, hcs, rowIs_nil _ _⟩
  · simp only [List.cons.injEq, and_true] at hcs
    exact ⟨some x, l, c, hcs, rowIs_of hl hm (by simpa using hz) hcell hwz⟩
theorem rowsIs_of {t e e5 : TypeId} {fuel : Nat} {a : Option Addr} {len cap : Nat} {x : DataW H × List MemPlace} (ht : P.underlying t = some (.slice e)) (he : P.underlying e = some (.slice e5)) (ce : P.cellsOf e = 1) (t3 : P.underlying e5 = some (.int .u8)) (c5 : P.cellsOf e5 = 1)
    (h : DataW.trod enc P w base (fun _ => true) held fuel t (Value.slice a len cap).cells.toList = some x) :
    len ≤ 9223372036854775807 ∧ ∃ ls : List (List Nat), ls.length = len ∧ RowsIs w a ls := by
  rcases Go.Deep.open_slice ht h with ⟨hcs, _⟩ | ⟨ad, l, c, m, n, D, Pl, hcs, hb, hl, hm, hmm, _, hx⟩
  · simp [Value.cells] at hcs
    obtain ⟨rfl, rfl, rfl⟩ := hcs
    exact ⟨by omega, [], rfl, fun j hj => absurd hj (by simp)⟩
  · simp [Value.cells] at hcs
    obtain ⟨rfl, rfl, rfl⟩ := hcs
    refine ⟨by unfold maxLen at hm; omega, ?_⟩
    have cell : ∀ i, i < len → ∃ v y, w.cell? (ad.add i) = some v ∧ DataW.trod enc P w base (fun _ => true) held n e [v] = some y := fun i hi => by
      obtain ⟨cs', h1, h2⟩ := hx i (by simp at hmm; omega)
      rw [ce] at h1
      obtain ⟨_, hlen, hcell⟩ := World.cells?_some h1
      match cs', hlen with
      | [v], _ =>
        have e0 := hcell 0 (by omega)
        rw [Go.Deep.add_add] at e0
        exact ⟨v, _, by simpa using e0, h2⟩
    have each : ∀ i, i < len → ∃ q : List Nat, ∃ b o sv, (some ad) = some ⟨b, o, none⟩ ∧ b < w.heap.size ∧ w.cell? ⟨b, o + i, none⟩ = some sv ∧ Old w.heap.size w sv q ∧ q.length ≤ 9223372036854775807 := by
      intro i hi
      obtain ⟨z0, _, hz0, _⟩ := cell 0 (by omega)
      rw [add_nought] at hz0
      have hsp := spot_of hz0
      obtain ⟨v, y, hv, hy⟩ := cell i hi
      obtain ⟨b, o, s⟩ := ad
      simp only at hsp
      subst hsp
      obtain ⟨p, ln, cp, e2, hr⟩ := rowIs_trod he t3 c5 hy
      obtain ⟨l, hl', hs⟩ := Src.of hr
      subst e2
      rw [Addr.add_mid] at hv
      exact ⟨l, b, o, _, rfl, World.block_lt_of_cell? w _ hz0, hv, Old.of hs, by have := hr.max; omega⟩
    obtain ⟨f, hf⟩ := Go.Deep.choose_lt each
    refine ⟨(List.range len).map f, by simp, fun j hj => ?_⟩
    have hj' : j < len := by simpa using hj
    obtain ⟨b, o, sv, h1, h2, h3, h4, h5⟩ := hf j hj'
    exact ⟨b, o, sv, h1, h2, h3, by simpa using h4, by simpa using h5⟩
end
theorem Old.by {B : Nat} {w : World} {v : Value} {l : List Nat} (h : Old B w v l) : By B w v l := by
  obtain ⟨⟨hs, h1 | h1 | ⟨b, o, c, rfl, hc, hr⟩⟩, h2⟩ := h
  · exact ⟨hs, .inl h1⟩
  · exact ⟨hs, .inr (.inl h1)⟩
  · by_cases h0 : l = []
    · subst h0
      exact ⟨hs, .inr (.inl ⟨_, _, rfl, rfl⟩)⟩
    · exact ⟨hs, .inr (.inr ⟨b, o, c, rfl, hc, hr, .inl (h2 h0 b rfl)⟩)⟩
end Go.Proofs.YtkiohhkmlpgdoaaDoor.S7
