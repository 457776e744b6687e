/- What comes in: slices of bytes, of parts and of asks. -/
import Derived.Test.YtchoiioeeepoaaaC8Anchor
import Derived.Deep.Slices
import Derived.ChangeArms
import Derived.ChangeSame
import Derived.OpenShut
namespace Go.Proofs.Ytchoiioeeepoaaa.C8
open Go.RowKit Go.ChangeShapes Go.WideShapes
/-- A slice of bytes that came in: it is empty with no room; or it leads to a row of bytes. -/
def RowIs (w : World) (a : Option Addr) (len cap : Nat) : Prop :=
  (len = 0 ∧ cap = 0) ∨ ∃ b o l, a = some ⟨b, o, none⟩ ∧ l.length = len ∧ len ≤ cap ∧ cap ≤ 9223372036854775807 ∧ (∀ x ∈ l, x < 256) ∧ w.rangeAt b o (ints .u8 l) ∧ b < w.heap.size
theorem rowIs_nil (w : World) (a : Option Addr) : RowIs w a 0 0 := .inl ⟨rfl, rfl⟩
theorem RowIs.max {w : World} {a : Option Addr} {len cap : Nat} (h : RowIs w a len cap) : len ≤ 9223372036854775807 := by
  rcases h with ⟨rfl, rfl⟩ | ⟨b, o, l, rfl, hl, hc, hm, hs, hr, hb⟩ <;> omega
theorem rowIs_of {w : World} {x : Addr} {len cap : Nat} {zs : List Int} (hl : len ≤ cap) (hm : cap ≤ maxLen) (hz : zs.length = cap)
    (hcell : ∀ i, i < zs.length → w.cell? (x.add i) = some (.int .u8 (zs.getD i 0))) (hwz : ∀ n ∈ zs, (Lit.int .u8 n).wf = true) : RowIs w (some x) len cap := by
  by_cases hc : cap = 0
  · exact .inl ⟨by omega, hc⟩
  · have h0 := hcell 0 (by omega)
    have hx0 : x.add 0 = x := by obtain ⟨b, o, s⟩ := x; unfold Addr.add; split <;> simp_all
    have hsp : x.spot = none := by
      rw [hx0] at h0
      cases hs : x.spot with
      | none => rfl
      | some q =>
        unfold World.cell? at h0
        split at h0
        · simp [hs] at h0
        · cases h0
    obtain ⟨b, o, s⟩ := x
    simp only at hsp
    subst hsp
    have hbd : ∀ n ∈ zs, 0 ≤ n ∧ n ≤ 255 := fun n hn => by
      have := hwz n hn
      simp [Lit.wf, IntKind.min, IntKind.max, IntKind.bits, IntKind.signed] at this
      omega
    refine .inr ⟨b, o, (zs.take len).map Int.toNat, rfl, by simp; omega, hl, by unfold maxLen at hm; omega, fun y hy => ?_, fun j v hv => ?_, ?_⟩
    · obtain ⟨n, hn, rfl⟩ := List.mem_map.1 hy
      have := hbd n (List.mem_of_mem_take hn)
      omega
    · have hj : j < len := by
        have := (List.getElem?_eq_some_iff.1 hv).1
        simp [ints] at this
        omega
      have hj' : j < zs.length := by omega
      have h1 := hcell j hj'
      rw [Addr.add_mid] at h1
      rw [h1, ← hv]
      have := hbd zs[j] (List.getElem_mem hj')
      simp [ints, hj, hj']
      omega
    · have := World.block_lt_of_cell? w _ (by rw [hx0] at h0; exact h0)
      exact this
theorem Src.of {w : World} {a : Option Addr} {len cap : Nat} (h : RowIs w a len cap) : ∃ l, l.length = len ∧ Src w (.slice a len cap) l := by
  rcases h with ⟨rfl, rfl⟩ | ⟨b, o, l, rfl, hl, hc, hm, hs, hr, hb⟩
  · refine ⟨[], rfl, fun x hx => by simp at hx, ?_⟩
    cases a with
    | none => exact .inl ⟨rfl, rfl⟩
    | some x => exact .inr (.inl ⟨_, _, rfl, rfl⟩)
  · exact ⟨l, hl, Src.row hs (by omega) hr hl⟩
theorem wf_i64 {n : Int} (h : (Lit.int .i64 n).wf = true) : -9223372036854775808 ≤ n ∧ n ≤ 9223372036854775807 := by
  simp [Lit.wf, IntKind.min, IntKind.max, IntKind.bits, IntKind.signed] at h
  omega
section
variable {H : Type} {enc : TypeId × Value → H} {P : Program} {w : World} {base : Nat} {held : Bool}
/-- A slice of structs of three cells each: the cells of each element, and what each field reads as. -/
theorem open_triples {t e : TypeId} {f0 f1 f2 : Field} {fuel : Nat} {a : Option Addr} {len cap : Nat} {x : DataW H × List MemPlace} (ht : P.underlying t = some (.slice e)) (he : P.underlying e = some (.struct #[f0, f1, f2]))
    (ce : P.cellsOf e = 3) (o0 : f0.offset = 0) (o1 : f1.offset = 1) (o2 : f2.offset = 2) (c0 : P.cellsOf f0.type = 1) (c1 : P.cellsOf f1.type = 1) (c2 : P.cellsOf f2.type = 1)
    (h : DataW.trod enc P w base (fun _ => true) held fuel t (Value.slice a len cap).cells.toList = some x) :
    len ≤ 9223372036854775807 ∧ ∀ i, i < len → ∃ (ad : Addr) (n : Nat) (v0 v1 v2 : Value) (y0 y1 y2 : DataW H × List MemPlace), a = some ad ∧ w.cell? (ad.add (i * 3)) = some v0 ∧ w.cell? (ad.add (i * 3 + 1)) = some v1 ∧ w.cell? (ad.add (i * 3 + 2)) = some v2 ∧
      DataW.trod enc P w base (fun _ => true) held n f0.type [v0] = some y0 ∧ DataW.trod enc P w base (fun _ => true) held n f1.type [v1] = some y1 ∧ DataW.trod enc P w base (fun _ => true) held n f2.type [v2] = some y2 := by
  rcases Go.Deep.open_slice ht h with ⟨hcs, _⟩ | ⟨ad, l, c, m, n, D, Pl, hcs, hb, hl, hm, hmm, _, hx⟩
  · simp [Value.cells] at hcs
    obtain ⟨rfl, rfl, rfl⟩ := hcs
    exact ⟨by omega, fun i hi => by omega⟩
  · simp [Value.cells] at hcs
    obtain ⟨rfl, rfl, rfl⟩ := hcs
    refine ⟨by unfold maxLen at hm; omega, fun i hi => ?_⟩
    obtain ⟨cs', h1, h2⟩ := hx i (by simp at hmm; omega)
    rw [ce] at h1
    obtain ⟨_, hlen, hcell⟩ := World.cells?_some h1
    obtain ⟨xs, k, hk, hxy, _, hxl, hf⟩ := DataW.trod_struct he h2
    match xs, hxl, cs', hlen with
    | [y0, y1, y2], _, [v0, v1, v2], _ =>
      have g0 := hf 0 f0 rfl
      have g1 := hf 1 f1 rfl
      have g2 := hf 2 f2 rfl
      simp [o0, o1, o2, c0, c1, c2] at g0 g1 g2
      have e0 := hcell 0 (by omega)
      have e1 := hcell 1 (by omega)
      have e2 := hcell 2 (by omega)
      rw [Go.Deep.add_add] at e0 e1 e2
      exact ⟨ad, _, v0, v1, v2, y0, y1, y2, rfl, by simpa using e0, by simpa using e1, by simpa using e2, g0, g1, g2⟩
end
/-- The parts behind a slice. -/
def PartRow (w : World) (q : Option Addr) (ps : List Pt) : Prop :=
  ∀ j (h : j < ps.length), ∃ b o sv, q = some ⟨b, o, none⟩ ∧ b < w.heap.size ∧ w.cell? ⟨b, o + j * 3, none⟩ = some (.bool ps[j].isText) ∧ w.cell? ⟨b, o + j * 3 + 1, none⟩ = some (.int .i64 ps[j].n) ∧ w.cell? ⟨b, o + j * 3 + 2, none⟩ = some sv ∧ Old w.heap.size w sv ps[j].text ∧ ps[j].text.length ≤ 9223372036854775807
/-- The asks behind a slice. -/
structure Ak where
  isText : Bool
  least : Int
  most : Int
def AskRow (w : World) (q : Option Addr) (ks : List Ak) : Prop :=
  ∀ j (h : j < ks.length), ∃ b o, q = some ⟨b, o, none⟩ ∧ b < w.heap.size ∧ w.cell? ⟨b, o + j * 3, none⟩ = some (.bool ks[j].isText) ∧ w.cell? ⟨b, o + j * 3 + 1, none⟩ = some (.int .i64 ks[j].least) ∧ w.cell? ⟨b, o + j * 3 + 2, none⟩ = some (.int .i64 ks[j].most)
section
variable {H : Type} {enc : TypeId × Value → H} {P : Program} {w : World} {base : Nat} {held : Bool}
theorem add_nought (ad : Addr) : ad.add 0 = ad := by obtain ⟨b, o, s⟩ := ad; unfold Addr.add; split <;> simp_all
theorem spot_of {ad : Addr} {v : Value} (h : w.cell? ad = some v) : ad.spot = none := by
  cases hs : ad.spot with
  | none => rfl
  | some q =>
    unfold World.cell? at h
    split at h
    · simp [hs] at h
    · cases h
theorem rowIs_trod {t e : TypeId} {fuel : Nat} {v : Value} {x : DataW H × List MemPlace} (ht : P.underlying t = some (.slice e)) (he : P.underlying e = some (.int .u8)) (hc : P.cellsOf e = 1)
    (h : DataW.trod enc P w base (fun _ => true) held fuel t [v] = some x) : ∃ a len cap, v = .slice a len cap ∧ RowIs w a len cap := by
  rcases open_ints ht he hc h with ⟨hcs, _⟩ | ⟨x, l, c, zs, hcs, _, hl, hm, hz, _, hcell, hwz⟩
  · simp only [List.cons.injEq, and_true] at hcs
    exact ⟨none, 0, 0, hcs, rowIs_nil _ _⟩
  · simp only [List.cons.injEq, and_true] at hcs
    exact ⟨some x, l, c, hcs, rowIs_of hl hm (by simpa using hz) hcell hwz⟩
theorem partRow_of {t e e5 : TypeId} {f0 f1 f2 : Field} {fuel : Nat} {a : Option Addr} {len cap : Nat} {x : DataW H × List MemPlace} (ht : P.underlying t = some (.slice e)) (he : P.underlying e = some (.struct #[f0, f1, f2]))
    (ce : P.cellsOf e = 3) (o0 : f0.offset = 0) (o1 : f1.offset = 1) (o2 : f2.offset = 2) (c0 : P.cellsOf f0.type = 1) (c1 : P.cellsOf f1.type = 1) (c2 : P.cellsOf f2.type = 1)
    (t0 : P.underlying f0.type = some .bool) (t1 : P.underlying f1.type = some (.int .i64)) (t2 : P.underlying f2.type = some (.slice e5)) (t3 : P.underlying e5 = some (.int .u8)) (c5 : P.cellsOf e5 = 1)
    (h : DataW.trod enc P w base (fun _ => true) held fuel t (Value.slice a len cap).cells.toList = some x) :
    len ≤ 9223372036854775807 ∧ ∃ ps : List Pt, ps.length = len ∧ PartRow w a ps := by
  obtain ⟨hlen, hx⟩ := open_triples ht he ce o0 o1 o2 c0 c1 c2 h
  refine ⟨hlen, ?_⟩
  have each : ∀ i, i < len → ∃ q : Bool × Int × List Nat, ∃ b o sv, a = some ⟨b, o, none⟩ ∧ b < w.heap.size ∧ w.cell? ⟨b, o + i * 3, none⟩ = some (.bool q.1) ∧ w.cell? ⟨b, o + i * 3 + 1, none⟩ = some (.int .i64 q.2.1) ∧ w.cell? ⟨b, o + i * 3 + 2, none⟩ = some sv ∧ Old w.heap.size w sv q.2.2 ∧ q.2.2.length ≤ 9223372036854775807 := by
    intro i hi
    obtain ⟨ad0, _, z0, _, _, _, _, _, ea0, hz0, _⟩ := hx 0 (by omega)
    rw [Nat.zero_mul, add_nought] at hz0
    have hsp := spot_of hz0
    obtain ⟨ad, n, v0, v1, v2, y0, y1, y2, ea, k0, k1, k2, g0, g1, g2⟩ := hx i hi
    rw [ea0] at ea
    obtain rfl := Option.some.inj ea
    obtain ⟨b, o, s⟩ := ad0
    simp only at hsp
    subst hsp
    obtain ⟨b0, e0, _⟩ := DataW.trod_bool t0 g0
    obtain ⟨n1, e1, _, _⟩ := DataW.trod_int t1 g1
    obtain ⟨p, ln, cp, e2, hr⟩ := rowIs_trod t2 t3 c5 g2
    obtain ⟨l, hl, hs⟩ := Src.of hr
    simp only [List.cons.injEq, and_true] at e0 e1
    subst e0 e1 e2
    rw [Addr.add_mid] at k0 k1 k2
    exact ⟨(b0, n1, l), b, o, _, ea0, World.block_lt_of_cell? w _ hz0, k0, by rw [Nat.add_assoc]; exact k1, by rw [Nat.add_assoc]; exact k2, Old.of hs, by have := hr.max; simp only; omega⟩
  obtain ⟨f, hf⟩ := Go.Deep.choose_lt each
  refine ⟨(List.range len).map (fun i => ⟨(f i).1, (f i).2.1, (f i).2.2⟩), by simp, fun j hj => ?_⟩
  have hj' : j < len := by simpa using hj
  obtain ⟨b, o, sv, h1, h2, h3, h4, h5, h6, h7⟩ := hf j hj'
  exact ⟨b, o, sv, h1, h2, by simpa using h3, by simpa using h4, h5, by simpa using h6, by simpa using h7⟩
theorem askRow_of {t e : TypeId} {f0 f1 f2 : Field} {fuel : Nat} {a : Option Addr} {len cap : Nat} {x : DataW H × List MemPlace} (ht : P.underlying t = some (.slice e)) (he : P.underlying e = some (.struct #[f0, f1, f2]))
    (ce : P.cellsOf e = 3) (o0 : f0.offset = 0) (o1 : f1.offset = 1) (o2 : f2.offset = 2) (c0 : P.cellsOf f0.type = 1) (c1 : P.cellsOf f1.type = 1) (c2 : P.cellsOf f2.type = 1)
    (t0 : P.underlying f0.type = some .bool) (t1 : P.underlying f1.type = some (.int .i64)) (t2 : P.underlying f2.type = some (.int .i64))
    (h : DataW.trod enc P w base (fun _ => true) held fuel t (Value.slice a len cap).cells.toList = some x) :
    len ≤ 9223372036854775807 ∧ ∃ ks : List Ak, ks.length = len ∧ AskRow w a ks := by
  obtain ⟨hlen, hx⟩ := open_triples ht he ce o0 o1 o2 c0 c1 c2 h
  refine ⟨hlen, ?_⟩
  have each : ∀ i, i < len → ∃ q : Bool × Int × Int, ∃ b o, a = some ⟨b, o, none⟩ ∧ b < w.heap.size ∧ w.cell? ⟨b, o + i * 3, none⟩ = some (.bool q.1) ∧ w.cell? ⟨b, o + i * 3 + 1, none⟩ = some (.int .i64 q.2.1) ∧ w.cell? ⟨b, o + i * 3 + 2, none⟩ = some (.int .i64 q.2.2) := by
    intro i hi
    obtain ⟨ad0, _, z0, _, _, _, _, _, ea0, hz0, _⟩ := hx 0 (by omega)
    rw [Nat.zero_mul, add_nought] at hz0
    have hsp := spot_of hz0
    obtain ⟨ad, n, v0, v1, v2, y0, y1, y2, ea, k0, k1, k2, g0, g1, g2⟩ := hx i hi
    rw [ea0] at ea
    obtain rfl := Option.some.inj ea
    obtain ⟨b, o, s⟩ := ad0
    simp only at hsp
    subst hsp
    obtain ⟨b0, e0, _⟩ := DataW.trod_bool t0 g0
    obtain ⟨n1, e1, _, _⟩ := DataW.trod_int t1 g1
    obtain ⟨n2, e2, _, _⟩ := DataW.trod_int t2 g2
    simp only [List.cons.injEq, and_true] at e0 e1 e2
    subst e0 e1 e2
    rw [Addr.add_mid] at k0 k1 k2
    exact ⟨(b0, n1, n2), b, o, ea0, World.block_lt_of_cell? w _ hz0, k0, by rw [Nat.add_assoc]; exact k1, by rw [Nat.add_assoc]; exact k2⟩
  obtain ⟨f, hf⟩ := Go.Deep.choose_lt each
  refine ⟨(List.range len).map (fun i => ⟨(f i).1, (f i).2.1, (f i).2.2⟩), by simp, fun j hj => ?_⟩
  have hj' : j < len := by simpa using hj
  obtain ⟨b, o, h1, h2, h3, h4, h5⟩ := hf j hj'
  exact ⟨b, o, h1, h2, by simpa using h3, by simpa using h4, by simpa using h5⟩
end
end Go.Proofs.Ytchoiioeeepoaaa.C8
