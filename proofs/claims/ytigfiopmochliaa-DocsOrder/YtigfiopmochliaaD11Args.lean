/- What comes in: strings, slices of strings, slices of bytes. -/
import Derived.Test.YtigfiopmochliaaD11La
namespace Go.Proofs.Ytigfiopmochliaa.D11
open Go.RowKit Go.ChangeShapes Go.WideShapes C8 E9 P10
/-- A string is that of some bytes. -/
theorem of_bytes (s : ByteArray) : ∃ k : List Nat, s = strB k ∧ (∀ x ∈ k, x < 256) ∧ k.length = s.size := by
  refine ⟨s.data.toList.map UInt8.toNat, bytes_eq ?_, fun x hx => ?_, by rw [List.length_map, Array.length_toList]; rfl⟩
  · have e : (UInt8.ofNat ∘ UInt8.toNat) = id := funext fun c => UInt8.ofNat_toNat
    show s.data.toList = (s.data.toList.map UInt8.toNat).map UInt8.ofNat
    rw [List.map_map, e, List.map_id]
  · obtain ⟨c, _, rfl⟩ := List.mem_map.1 hx
    exact c.toNat_lt
section
variable {H : Type} {enc : TypeId × Value → H} {P : Program} {w : World} {base : Nat} {held : Bool}
theorem strRow_of {tt t : TypeId} {a : Option Addr} {len cap : Nat} {fuel : Nat} {x : DataW H × List MemPlace} (htt : P.underlying tt = some (.slice t)) (ht : P.underlying t = some .string) (hC : P.cellsOf t = 1)
    (h : DataW.trod enc P w base (fun _ => true) held fuel tt (Value.slice a len cap).cells.toList = some x) : ∃ vs : List (List Nat), vs.length = len ∧ StrRow w a vs := by
  rcases Go.Deep.open_slice htt h with ⟨hcs, _⟩ | ⟨ad, l, c, m, n, D, Pl, hcs, hb, hl, hm, hmm, _, hx⟩
  · simp [Value.cells] at hcs
    obtain ⟨rfl, rfl, rfl⟩ := hcs
    exact ⟨[], rfl, fun j hj => by cases hj⟩
  · simp [Value.cells] at hcs
    obtain ⟨rfl, rfl, rfl⟩ := hcs
    have hone : ∀ i, i < len → ∃ k : List Nat, w.cell? (ad.add i) = some (.string (strB k)) ∧ (∀ x ∈ k, x < 256) ∧ k.length ≤ 9223372036854775807 := fun i hi => by
      obtain ⟨cs', h1, h2⟩ := hx i (by simp at hmm; omega)
      rw [hC] at h1
      obtain ⟨_, hlen, hcell⟩ := World.cells?_some h1
      obtain ⟨s, e1, _, hs⟩ := DataW.trod_string ht h2
      have e0 := hcell 0 (by omega)
      rw [Go.Deep.add_add, e1] at e0
      obtain ⟨k, hk, hb', hl'⟩ := of_bytes s
      refine ⟨k, ?_, hb', by rw [hl']; exact hs⟩
      rw [← hk]
      simpa using e0
    have hspot : 0 < len → ad.spot = none := fun h0 => by
      obtain ⟨k, h1, _⟩ := hone 0 h0
      rw [add_nought] at h1
      exact spot_of h1
    by_cases h0 : len = 0
    · subst h0
      exact ⟨[], rfl, fun j hj => by cases hj⟩
    have hs0 := hspot (by omega)
    obtain ⟨b, o, s⟩ := ad
    simp only at hs0
    subst hs0
    have hone2 : ∀ i, i < len → ∃ k : List Nat, w.cell? ⟨b, o + i, none⟩ = some (.string (strB k)) ∧ (∀ x ∈ k, x < 256) ∧ k.length ≤ 9223372036854775807 := fun i hi => by
      obtain ⟨k, h1, h2⟩ := hone i hi
      rw [Addr.add_mid] at h1
      exact ⟨k, h1, h2⟩
    refine ⟨List.ofFn (fun i : Fin len => Classical.choose (hone2 i.1 i.2)), by simp, fun j hj => ?_⟩
    have hj' : j < len := by simpa using hj
    have hsp := Classical.choose_spec (hone2 j hj')
    simp only [List.getElem_ofFn]
    exact ⟨b, o, rfl, World.block_lt_of_cell? w _ hsp.1, hsp.1, hsp.2.1, hsp.2.2⟩
/-- The bytes behind a slice of slices. -/
def BysRow (w : World) (q : Option Addr) (ss : List (List Nat)) : Prop := ∀ j (h : j < ss.length), ∃ b o p c, q = some ⟨b, o, none⟩ ∧ b < w.heap.size ∧ w.cell? ⟨b, o + j, none⟩ = some (.slice p ss[j].length c) ∧ Src w (.slice p ss[j].length c) ss[j]
theorem BysRow.below {w w' : World} {q : Option Addr} {ss : List (List Nat)} (h : BysRow w q ss) (hb : Below w.heap.size w w') : BysRow w' q ss := fun j hj => by
  obtain ⟨b, o, p, c, h1, h2, h3, h4⟩ := h j hj
  exact ⟨b, o, p, c, h1, Nat.lt_of_lt_of_le h2 hb.size, (hb.cell (p := ⟨b, o + j, none⟩) h2).trans h3, h4.below hb⟩
theorem bysRow_of {tt t e : TypeId} {a : Option Addr} {len cap : Nat} {fuel : Nat} {x : DataW H × List MemPlace} (htt : P.underlying tt = some (.slice t)) (ht : P.underlying t = some (.slice e)) (he : P.underlying e = some (.int .u8)) (hce : P.cellsOf e = 1) (hC : P.cellsOf t = 1)
    (h : DataW.trod enc P w base (fun _ => true) held fuel tt (Value.slice a len cap).cells.toList = some x) : ∃ vs : List (List Nat), vs.length = len ∧ BysRow w a vs := by
  rcases Go.Deep.open_slice htt h with ⟨hcs, _⟩ | ⟨ad, l, c, m, n, D, Pl, hcs, hb, hl, hm, hmm, _, hx⟩
  · simp [Value.cells] at hcs
    obtain ⟨rfl, rfl, rfl⟩ := hcs
    exact ⟨[], rfl, fun j hj => by cases hj⟩
  · simp [Value.cells] at hcs
    obtain ⟨rfl, rfl, rfl⟩ := hcs
    have hone : ∀ i, i < len → ∃ k : List Nat, ∃ p c, w.cell? (ad.add i) = some (.slice p k.length c) ∧ Src w (.slice p k.length c) k := fun i hi => by
      obtain ⟨cs', h1, h2⟩ := hx i (by simp at hmm; omega)
      rw [hC] at h1
      obtain ⟨_, hlen, hcell⟩ := World.cells?_some h1
      match cs', hlen with
      | [v], _ =>
        obtain ⟨p, ln, cp, e2, hr⟩ := rowIs_trod ht he hce h2
        obtain ⟨k, hk, hs⟩ := Src.of hr
        have e0 := hcell 0 (by omega)
        rw [Go.Deep.add_add, e2] at e0
        subst hk
        exact ⟨k, p, cp, by simpa using e0, hs⟩
    have hspot : 0 < len → ad.spot = none := fun h0 => by
      obtain ⟨k, p, c, h1, _⟩ := hone 0 h0
      rw [add_nought] at h1
      exact spot_of h1
    by_cases h0 : len = 0
    · subst h0
      exact ⟨[], rfl, fun j hj => by cases hj⟩
    have hs0 := hspot (by omega)
    obtain ⟨b, o, s⟩ := ad
    simp only at hs0
    subst hs0
    have hone2 : ∀ i, i < len → ∃ k : List Nat, ∃ p c, w.cell? ⟨b, o + i, none⟩ = some (.slice p k.length c) ∧ Src w (.slice p k.length c) k := fun i hi => by
      obtain ⟨k, p, c, h1, h2⟩ := hone i hi
      rw [Addr.add_mid] at h1
      exact ⟨k, p, c, h1, h2⟩
    refine ⟨List.ofFn (fun i : Fin len => Classical.choose (hone2 i.1 i.2)), by simp, fun j hj => ?_⟩
    have hj' : j < len := by simpa using hj
    obtain ⟨p, c, h1, h2⟩ := Classical.choose_spec (hone2 j hj')
    simp only [List.getElem_ofFn]
    exact ⟨b, o, p, c, rfl, World.block_lt_of_cell? w _ h1, h1, h2⟩
end
end Go.Proofs.Ytigfiopmochliaa.D11
