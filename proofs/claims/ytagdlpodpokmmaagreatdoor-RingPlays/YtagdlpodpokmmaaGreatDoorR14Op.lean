/- RingPlays: the steps that came in. -/
import Derived.Test.YtagdlpodpokmmaaGreatDoorR14Sg
import Derived.Test.YtagdlpodpokmmaaGreatDoorS7Args
import Derived.Deep.Slices
import Derived.ChangeArms
import Derived.ChangeSame
namespace Go.Proofs.YtagdlpodpokmmaaGreatDoor.S7
open Go.RowKit Go.ChangeShapes Go.WideShapes
structure Op5 where
  kind : Int
  n : Int
  m : Int
  ref : Int
  data : List Nat
def OpRow5 (W w' : World) (q : Option Addr) (os : List Op5) : Prop :=
  ∀ j (_ : j < os.length), ∃ b o dv, q = some ⟨b, o, none⟩ ∧ b < W.heap.size ∧ (w'.cell? ⟨b, o + j * 5, none⟩ = some (.int .i64 os[j].kind) ∧ w'.cell? ⟨b, o + j * 5 + 1, none⟩ = some (.int .i64 os[j].n) ∧ w'.cell? ⟨b, o + j * 5 + 2, none⟩ = some (.int .i64 os[j].m) ∧ w'.cell? ⟨b, o + j * 5 + 3, none⟩ = some (.int .i64 os[j].ref) ∧ w'.cell? ⟨b, o + j * 5 + 4, none⟩ = some dv) ∧ Old W.heap.size w' dv os[j].data
theorem OpRow5.below {W w' w'' : World} {q : Option Addr} {os : List Op5} (h : OpRow5 W w' q os) (hb : Below W.heap.size w' w'') : OpRow5 W w'' q os := fun j hj => by
  obtain ⟨b, o, dv, h1, h2, ⟨c0, c1, c2, c3, c4⟩, o1⟩ := h j hj
  have mv : ∀ i v, w'.cell? ⟨b, i, none⟩ = some v → w''.cell? ⟨b, i, none⟩ = some v := fun i v hv => (World.cell?_of_block (a := ⟨b, i, none⟩) (hb.block b h2)).trans hv
  exact ⟨b, o, dv, h1, h2, ⟨mv _ _ c0, mv _ _ c1, mv _ _ c2, mv _ _ c3, mv _ _ c4⟩, o1.keep hb⟩
section
variable {H : Type} {enc : TypeId × Value → H} {P : Program} {w : World} {base : Nat} {held : Bool}
theorem add_no5 (ad : Addr) : ad.add 0 = ad := by obtain ⟨b, o, s⟩ := ad; unfold Addr.add; split <;> simp_all
theorem spot_none {ad : Addr} {v : Value} (h : w.cell? ad = some v) : ad.spot = none := by
  cases hs : ad.spot with
  | none => rfl
  | some q =>
    unfold World.cell? at h
    split at h
    · simp [hs] at h
    · cases h
theorem rowIs_by5 {t e : TypeId} {fuel : Nat} {v : Value} {x : DataW H × List MemPlace} (ht : P.underlying t = some (.slice e)) (he : P.underlying e = some (.int .u8)) (hc : P.cellsOf e = 1)
    (h : DataW.trod enc P w base (fun _ => true) held fuel t [v] = some x) : ∃ a len cap, v = .slice a len cap ∧ RowIs w a len cap := by
  rcases open_ints ht he hc h with ⟨hcs, _⟩ | ⟨x, l, c, zs, hcs, _, hl, hm, hz, _, hcell, hwz⟩
  · simp only [List.cons.injEq, and_true] at hcs
    exact ⟨none, 0, 0, hcs, rowIs_nil _ _⟩
  · simp only [List.cons.injEq, and_true] at hcs
    exact ⟨some x, l, c, hcs, rowIs_of hl hm (by simpa using hz) hcell hwz⟩
theorem opRow5_of {t e i3 t32 e5 : TypeId} {f0 f1 f2 f3 f4 : Field} {fuel : Nat} {a : Option Addr} {len cap : Nat} {x : DataW H × List MemPlace} (ht : P.underlying t = some (.slice e)) (he : P.underlying e = some (.struct #[f0, f1, f2, f3, f4]))
    (ce : P.cellsOf e = 5) (o0 : f0.offset = 0) (o1 : f1.offset = 1) (o2 : f2.offset = 2) (o3 : f3.offset = 3) (o4 : f4.offset = 4)
    (y0 : f0.type = i3) (y1 : f1.type = i3) (y2 : f2.type = i3) (y3 : f3.type = i3) (y4 : f4.type = t32) (ci : P.cellsOf i3 = 1) (cs : P.cellsOf t32 = 1)
    (ti : P.underlying i3 = some (.int .i64)) (ts : P.underlying t32 = some (.slice e5)) (te : P.underlying e5 = some (.int .u8)) (c5 : P.cellsOf e5 = 1)
    (h : DataW.trod enc P w base (fun _ => true) held fuel t (Value.slice a len cap).cells.toList = some x) :
    len ≤ 9223372036854775807 ∧ ∃ os : List Op5, os.length = len ∧ OpRow5 w w a os := by
  subst y0 y4
  rcases Go.Deep.open_slice ht h with ⟨hcs, _⟩ | ⟨ad, l, c, m, n, D, Pl, hcs, hb, hl, hm, hmm, _, hx⟩
  · simp [Value.cells] at hcs
    obtain ⟨rfl, rfl, rfl⟩ := hcs
    exact ⟨by omega, [], rfl, fun j hj => absurd hj (by simp)⟩
  · simp [Value.cells] at hcs
    obtain ⟨rfl, rfl, rfl⟩ := hcs
    refine ⟨by unfold maxLen at hm; omega, ?_⟩
    have first : ∀ i, i < len → ∃ v, w.cell? (ad.add (i * 5)) = some v := fun i hi => by
      obtain ⟨cs', h1, h2⟩ := hx i (by simp at hmm; omega)
      rw [ce] at h1
      obtain ⟨_, hlen, hcell⟩ := World.cells?_some h1
      have e0 := hcell 0 (by omega)
      rw [Go.Deep.add_add] at e0
      rw [Nat.add_zero] at e0
      exact ⟨cs'[0]'(by omega), by rw [e0]; exact List.getElem?_eq_getElem _⟩
    have each : ∀ i, i < len → ∃ z : Op5, ∃ b o dv, (some ad) = some ⟨b, o, none⟩ ∧ b < w.heap.size ∧ (w.cell? ⟨b, o + i * 5, none⟩ = some (.int .i64 z.kind) ∧ w.cell? ⟨b, o + i * 5 + 1, none⟩ = some (.int .i64 z.n) ∧ w.cell? ⟨b, o + i * 5 + 2, none⟩ = some (.int .i64 z.m) ∧ w.cell? ⟨b, o + i * 5 + 3, none⟩ = some (.int .i64 z.ref) ∧ w.cell? ⟨b, o + i * 5 + 4, none⟩ = some dv) ∧ Old w.heap.size w dv z.data := by
      intro i hi
      obtain ⟨z0, hz0⟩ := first 0 (by omega)
      rw [Nat.zero_mul, add_no5] at hz0
      have hsp := spot_none hz0
      obtain ⟨cs', h1, h2⟩ := hx i (by simp at hmm; omega)
      rw [ce] at h1
      obtain ⟨_, hlen, hcell⟩ := World.cells?_some h1
      obtain ⟨xs, k, hk, hxy, _, hxl, hf⟩ := DataW.trod_struct he h2
      obtain ⟨b, o, s⟩ := ad
      simp only at hsp
      subst hsp
      match xs, hxl, cs', hlen with
      | [z0, z1, z2, z3, z4], _, [v0, v1, v2, v3, v4], _ =>
        have g0 := hf 0 f0 rfl
        have g1 := hf 1 f1 rfl
        have g2 := hf 2 f2 rfl
        have g3 := hf 3 f3 rfl
        have g4 := hf 4 f4 rfl
        simp [o0, o1, o2, o3, o4, y1, y2, y3, ci, cs] at g0 g1 g2 g3 g4
        have e0 := hcell 0 (by omega)
        have e1 := hcell 1 (by omega)
        have e2 := hcell 2 (by omega)
        have e3 := hcell 3 (by omega)
        have e4 := hcell 4 (by omega)
        rw [Go.Deep.add_add, Addr.add_mid] at e0 e1 e2 e3 e4
        obtain ⟨m0, a0, _, _⟩ := DataW.trod_int ti g0
        obtain ⟨m1, a1, _, _⟩ := DataW.trod_int ti g1
        obtain ⟨m2, a2, _, _⟩ := DataW.trod_int ti g2
        obtain ⟨m3, a3, _, _⟩ := DataW.trod_int ti g3
        obtain ⟨p4, n4, c4, a4, r4⟩ := rowIs_by5 ts te c5 g4
        obtain ⟨l4, _, s4⟩ := Src.of r4
        simp only [List.cons.injEq, and_true] at a0 a1 a2 a3
        subst a0 a1 a2 a3 a4
        exact ⟨⟨m0, m1, m2, m3, l4⟩, b, o, _, rfl, World.block_lt_of_cell? w _ hz0, ⟨by simpa using e0, by rw [Nat.add_assoc]; simpa using e1, by rw [Nat.add_assoc]; simpa using e2, by rw [Nat.add_assoc]; simpa using e3, by rw [Nat.add_assoc]; simpa using e4⟩, Old.of s4⟩
    have : Inhabited Op5 := ⟨⟨0, 0, 0, 0, []⟩⟩
    obtain ⟨f, hf⟩ := Go.Deep.choose_lt each
    refine ⟨(List.range len).map f, by simp, fun j hj => ?_⟩
    have hj' : j < len := by simpa using hj
    simpa using hf j hj'
end
end Go.Proofs.YtagdlpodpokmmaaGreatDoor.S7
