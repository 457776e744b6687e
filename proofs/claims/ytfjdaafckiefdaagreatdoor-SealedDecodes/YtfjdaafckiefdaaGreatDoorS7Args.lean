/- What comes in: slices and arrays of bytes; what lies below a place stays. -/
import Derived.Test.YtfjdaafckiefdaaGreatDoorMgO
import Derived.WideKeyArr2
import Derived.OpenShut
namespace Go.Proofs.YtfjdaafckiefdaaGreatDoor.S7
open Go.RowKit
/-- Bytes that lie below a place. -/
def Old (B : Nat) (w : World) (v : Value) (l : List Nat) : Prop := Src w v l ∧ (l ≠ [] → ∀ b, v.ownBlock = some b → b < B)
section
variable {w w' : World} {B : Nat} {v : Value} {l : List Nat}
theorem ints_ne {k : IntKind} (h : l ≠ []) : ints k l ≠ [] := by
  intro e
  apply h
  have := congrArg List.length e
  rw [ints_length] at this
  exact List.eq_nil_of_length_eq_zero this
theorem Old.of (h : Src w v l) : Old w.heap.size w v l := by
  refine ⟨h, fun h0 b hb => ?_⟩
  obtain ⟨_, ⟨rfl, rfl⟩ | ⟨_, _, rfl, rfl⟩ | ⟨g, o, c, rfl, _, hr⟩⟩ := h
  · exact absurd rfl h0
  · exact absurd rfl h0
  · cases hb
    exact range_lt hr (ints_ne h0)
theorem Old.keep (h : Old B w v l) (hb : Below B w w') : Old B w' v l := by
  refine ⟨?_, h.2⟩
  obtain ⟨⟨hs, h1 | h1 | ⟨g, o, c, rfl, hc, hr⟩⟩, h2⟩ := h
  · exact ⟨hs, .inl h1⟩
  · exact ⟨hs, .inr (.inl h1)⟩
  · by_cases h0 : l = []
    · subst h0
      exact ⟨hs, .inr (.inl ⟨_, _, rfl, rfl⟩)⟩
    · exact ⟨hs, .inr (.inr ⟨g, o, c, rfl, hc, range_kept hr (hb.block g (h2 h0 g rfl))⟩)⟩
theorem Old.up {B' : Nat} (h : Old B w v l) (hB : B ≤ B') : Old B' w v l := ⟨h.1, fun h0 b hb => Nat.lt_of_lt_of_le (h.2 h0 b hb) hB⟩
theorem Old.only {bs : List Nat} (h : Old B w v l) (ho : Only bs w w') (hB : B ≤ w.heap.size) (hs : ∀ y ∈ bs, B ≤ y) : Old B w' v l := h.keep (ho.below hB hs)
end
/-- A slice of bytes that came in: it is empty with no room; or it leads to a row of bytes. -/
def RowIs (w : World) (a : Option Addr) (len cap : Nat) : Prop :=
  (len = 0 ∧ cap = 0) ∨ ∃ b o l, a = some ⟨b, o, none⟩ ∧ l.length = len ∧ len ≤ cap ∧ cap ≤ 9223372036854775807 ∧ (∀ x ∈ l, x < 256) ∧ w.rangeAt b o (ints .u8 l) ∧ b < w.heap.size
theorem rowIs_nil (w : World) (a : Option Addr) : RowIs w a 0 0 := .inl ⟨rfl, rfl⟩
theorem RowIs.max {w : World} {a : Option Addr} {len cap : Nat} (h : RowIs w a len cap) : len ≤ 9223372036854775807 := by
  rcases h with ⟨rfl, rfl⟩ | ⟨b, o, l, rfl, hl, hc, hm, hs, hr, hb⟩ <;> omega
theorem rowIs_of {w : World} {x : Addr} {len cap : Nat} {zs : List Int} (hl : len ≤ cap) (hm : cap ≤ maxLen) (hz : zs.length = cap)
    (hcell : ∀ i, i < zs.length → w.cell? (x.add i) = some (.int .u8 (zs.getD i 0))) (hwz : ∀ n ∈ zs, (Lit.int .u8 n).wf = true) : RowIs w (some x) len cap := by
  by_cases hc : cap = 0
  · exact .inl ⟨by omega, hc⟩
  · have h0 := hcell 0 (by omega)
    have hx0 : x.add 0 = x := by obtain ⟨b, o, s⟩ := x; unfold Addr.add; split <;> simp_all
    have hsp : x.spot = none := by
      rw [hx0] at h0
      cases hs : x.spot with
      | none => rfl
      | some q =>
        unfold World.cell? at h0
        split at h0
        · simp [hs] at h0
        · cases h0
    obtain ⟨b, o, s⟩ := x
    simp only at hsp
    subst hsp
    have hbd : ∀ n ∈ zs, 0 ≤ n ∧ n ≤ 255 := fun n hn => by
      have := hwz n hn
      simp [Lit.wf, IntKind.min, IntKind.max, IntKind.bits, IntKind.signed] at this
      omega
    refine .inr ⟨b, o, (zs.take len).map Int.toNat, rfl, by simp; omega, hl, by unfold maxLen at hm; omega, fun y hy => ?_, fun j v hv => ?_, ?_⟩
    · obtain ⟨n, hn, rfl⟩ := List.mem_map.1 hy
      have := hbd n (List.mem_of_mem_take hn)
      omega
    · have hj : j < len := by
        have := (List.getElem?_eq_some_iff.1 hv).1
        simp [ints] at this
        omega
      have hj' : j < zs.length := by omega
      have h1 := hcell j hj'
      rw [Addr.add_mid] at h1
      rw [h1, ← hv]
      have := hbd zs[j] (List.getElem_mem hj')
      simp [ints, hj, hj']
      omega
    · have := World.block_lt_of_cell? w _ (by rw [hx0] at h0; exact h0)
      exact this
theorem Src.of {w : World} {a : Option Addr} {len cap : Nat} (h : RowIs w a len cap) : ∃ l, l.length = len ∧ Src w (.slice a len cap) l := by
  rcases h with ⟨rfl, rfl⟩ | ⟨b, o, l, rfl, hl, hc, hm, hs, hr, hb⟩
  · refine ⟨[], rfl, fun x hx => by simp at hx, ?_⟩
    cases a with
    | none => exact .inl ⟨rfl, rfl⟩
    | some x => exact .inr (.inl ⟨_, _, rfl, rfl⟩)
  · exact ⟨l, hl, Src.row hs (by omega) hr hl⟩
theorem wf_i64 {n : Int} (h : (Lit.int .i64 n).wf = true) : -9223372036854775808 ≤ n ∧ n ≤ 9223372036854775807 := by
  simp [Lit.wf, IntKind.min, IntKind.max, IntKind.bits, IntKind.signed] at h
  omega
theorem wf_u8 {n : Int} (h : (Lit.int .u8 n).wf = true) : 0 ≤ n ∧ n ≤ 255 := by
  simp [Lit.wf, IntKind.min, IntKind.max, IntKind.bits, IntKind.signed] at h
  omega
section
variable {H : Type} {enc : TypeId × Value → H} {P : Program} {k e : TypeId} {n : Nat} {W : World} {base : Nat} {sp : Nat → Bool} {held : Bool}
theorem mapM_bytes (he : P.underlying e = some (.int .u8)) {m : Nat} {cs : List Value} : ∀ (L : List Nat) (xs : List (DataW H × List MemPlace)),
    L.mapM (fun i => DataW.trod enc P W base sp held m e ((cs.drop (i * 1)).take 1)) = some xs → ∀ i ∈ L, ∃ a : Int, cs[i]? = some (.int .u8 a) ∧ (Lit.int .u8 a).wf = true
  | [], _, _ => fun i hi => by simp at hi
  | j :: L, xs, h => by
    rw [List.mapM_cons] at h
    simp only [bind, Option.bind_eq_some_iff, pure, Option.some.injEq] at h
    obtain ⟨y, hy, ys, hys, rfl⟩ := h
    intro i hi
    rcases List.mem_cons.1 hi with rfl | hi
    · obtain ⟨a, ea, _, wa⟩ := DataW.trod_int he hy
      refine ⟨a, ?_, wa⟩
      rw [Nat.mul_one] at ea
      have h0 := congrArg (fun l => l[0]?) ea
      simpa [List.getElem?_take, List.getElem?_drop] using h0
    · exact mapM_bytes he L ys hys i hi
theorem open_bytes (hu : P.underlying k = some (.array n e)) (he : P.underlying e = some (.int .u8)) (hc : P.cellsOf e = 1) (hsz : P.cellsOf k = n) {xs : Array Value} (hn : xs.size = n) {d : DataW H} {ps : List MemPlace} (hd : DataW.Trod enc P W base sp held k (.agg xs) d ps) :
    ∃ l : List Nat, xs = arr .u8 l ∧ l.length = n ∧ ∀ x ∈ l, x < 256 := by
  obtain ⟨fuel, hf⟩ := hd
  cases fuel with
  | zero => simp [DataW.trod] at hf
  | succ m =>
    rw [DataW.trod_step] at hf
    unfold DataW.trodStep at hf
    simp only [hu, Value.cells] at hf
    rw [if_pos (by rw [hsz]; simpa using hn)] at hf
    simp only [Option.map_eq_some_iff] at hf
    obtain ⟨ys, hy, _⟩ := hf
    rw [hc] at hy
    have h := mapM_bytes he _ ys hy
    have hbd : ∀ i, i < xs.size → ∃ x : Nat, xs[i]? = some (.int .u8 (x : Nat)) ∧ x < 256 := fun i hi => by
      obtain ⟨a, ha, wa⟩ := h i (List.mem_range.2 (by omega))
      simp [Lit.wf, IntKind.min, IntKind.max, IntKind.bits, IntKind.signed] at wa
      refine ⟨a.toNat, ?_, by omega⟩
      rw [show ((a.toNat : Nat) : Int) = a from by omega, ← ha]
      simp
    refine ⟨xs.toList.map fun | .int _ a => a.toNat | _ => 0, ?_, by simpa using hn, ?_⟩
    · apply Array.ext
      · simp [arr, ints]
      · intro i h1 h2
        obtain ⟨x, hx, _⟩ := hbd i h1
        rw [Array.getElem?_eq_getElem h1] at hx
        have hx' := Option.some.inj hx
        simp [arr, ints, hx']
    · intro y hy
      obtain ⟨v, hv, rfl⟩ := List.mem_map.1 hy
      obtain ⟨i, hi, rfl⟩ := List.getElem_of_mem hv
      obtain ⟨x, hx, hx2⟩ := hbd i (by simpa using hi)
      have h1 : xs.toList[i] = .int .u8 (x : Nat) := by
        have : xs.toList[i]? = some (.int .u8 (x : Nat)) := by simpa using hx
        rw [List.getElem?_eq_getElem hi] at this
        exact Option.some.inj this
      rw [h1]
      simpa using hx2
end
theorem cells5 : Tryz.prog.cellsOf 5 = 1 := by kernel_rfl
theorem okWide_bytes {P : Program} {W : World} {k e : TypeId} {n : Nat} (hu : P.underlying k = some (.array n e)) (hsz : P.cellsOf k = n) {r : Reach} {b0 : Nat} {v : Value} (h : Value.okWide P W r b0 k v) : ∃ xs : Array Value, v = .agg xs ∧ xs.size = n := by
  simp only [Value.okWide, hu] at h
  obtain ⟨cs, h1, h2, _⟩ := h
  exact ⟨cs, h1, by rw [h2, hsz]⟩
/-- An array of bytes that was laid into a block. -/
theorem arr_src {w : World} {l : List Nat} (t : TypeId) (hs : ∀ x ∈ l, x < 256) {n : Nat} (hn : l.length = n) : Src (w.alloc (.cells (arr .u8 l) t)) (.slice (some ⟨w.heap.size, 0, none⟩) n n) l :=
  Src.row hs (by omega) (rangeAt_of_row (t := t) (fr := (0, 0)) (heap_alloc_new w _)) hn
end Go.Proofs.YtfjdaafckiefdaaGreatDoor.S7
