/- The anchor: the document's example. -/
import Derived.Test.YtigfiopmochliaaMgA
import Derived.Deep.Slices
import Derived.ChangeArms
import Derived.ChangeSame
import Derived.OpenShut
namespace Go.Proofs.Ytigfiopmochliaa.C8
open Go.RowKit
/-- A text that is told holds its bytes. -/
theorem Told.src {w : World} {g o n : Nat} {v : Value} {t : List Nat} (h : Told g o n v) (hs : ∀ x ∈ t, x < 256) (hn : t.length = n) (hr : w.rangeAt g o (ints .u8 t)) : Src w v t := by
  rcases h with ⟨rfl, ad, c, rfl⟩ | rfl
  · have := List.eq_nil_of_length_eq_zero hn
    subst this
    exact ⟨hs, .inr (.inl ⟨ad, c, rfl, rfl⟩)⟩
  · exact Src.row hs (by omega) hr hn
/-- A text that is read, with its bytes. -/
theorem lit_all : strB [0, 0, 0, 0, 0, 1, 0, 2, 97, 98] = ⟨#[0, 0, 0, 0, 0, 1, 0, 2, 97, 98]⟩ := by rfl
theorem lit_ab : strB [97, 98] = ⟨#[97, 98]⟩ := by rfl
/-- The example's parts. -/
def exPs : List Pt := [⟨false, 1, []⟩, ⟨true, 0, [97, 98]⟩]
theorem ex_err : Cd.err exPs = 0 := by rfl
theorem ex_enc : Cd.enc exPs = [0, 0, 0, 0, 0, 1, 0, 2, 97, 98] := by rfl
end Go.Proofs.Ytigfiopmochliaa.C8
/- What comes in: slices of bytes, of parts and of asks. -/
namespace Go.Proofs.Ytigfiopmochliaa.C8
open Go.RowKit Go.ChangeShapes Go.WideShapes
/-- A slice of bytes that came in: it is empty with no room; or it leads to a row of bytes. -/
def RowIs (w : World) (a : Option Addr) (len cap : Nat) : Prop :=
  (len = 0 ∧ cap = 0) ∨ ∃ b o l, a = some ⟨b, o, none⟩ ∧ l.length = len ∧ len ≤ cap ∧ cap ≤ 9223372036854775807 ∧ (∀ x ∈ l, x < 256) ∧ w.rangeAt b o (ints .u8 l) ∧ b < w.heap.size
theorem rowIs_nil (w : World) (a : Option Addr) : RowIs w a 0 0 := .inl ⟨rfl, rfl⟩
theorem RowIs.max {w : World} {a : Option Addr} {len cap : Nat} (h : RowIs w a len cap) : len ≤ 9223372036854775807 := by
  rcases h with ⟨rfl, rfl⟩ | ⟨b, o, l, rfl, hl, hc, hm, hs, hr, hb⟩ <;> omega
theorem rowIs_of {w : World} {x : Addr} {len cap : Nat} {zs : List Int} (hl : len ≤ cap) (hm : cap ≤ maxLen) (hz : zs.length = cap)
    (hcell : ∀ i, i < zs.length → w.cell? (x.add i) = some (.int .u8 (zs.getD i 0))) (hwz : ∀ n ∈ zs, (Lit.int .u8 n).wf = true) : RowIs w (some x) len cap := by
  by_cases hc : cap = 0
  · exact .inl ⟨by omega, hc⟩
  · have h0 := hcell 0 (by omega)
    have hx0 : x.add 0 = x := by obtain ⟨b, o, s⟩ := x; unfold Addr.add; split <;> simp_all
    have hsp : x.spot = none := by
      rw [hx0] at h0
      cases hs : x.spot with
      | none => rfl
      | some q =>
        unfold World.cell? at h0
        split at h0
        · simp [hs] at h0
        · cases h0
    obtain ⟨b, o, s⟩ := x
    simp only at hsp
    subst hsp
    have hbd : ∀ n ∈ zs, 0 ≤ n ∧ n ≤ 255 := fun n hn => by
      have := hwz n hn
      simp [Lit.wf, IntKind.min, IntKind.max, IntKind.bits, IntKind.signed] at this
      omega
    refine .inr ⟨b, o, (zs.take len).map Int.toNat, rfl, by simp; omega, hl, by unfold maxLen at hm; omega, fun y hy => ?_, fun j v hv => ?_, ?_⟩
    · obtain ⟨n, hn, rfl⟩ := List.mem_map.1 hy
      have := hbd n (List.mem_of_mem_take hn)
      omega
    · have hj : j < len := by
        have := (List.getElem?_eq_some_iff.1 hv).1
        simp [ints] at this
        omega
      have hj' : j < zs.length := by omega
      have h1 := hcell j hj'
      rw [Addr.add_mid] at h1
      rw [h1, ← hv]
      have := hbd zs[j] (List.getElem_mem hj')
      simp [ints, hj, hj']
      omega
    · have := World.block_lt_of_cell? w _ (by rw [hx0] at h0; exact h0)
      exact this
theorem Src.of {w : World} {a : Option Addr} {len cap : Nat} (h : RowIs w a len cap) : ∃ l, l.length = len ∧ Src w (.slice a len cap) l := by
  rcases h with ⟨rfl, rfl⟩ | ⟨b, o, l, rfl, hl, hc, hm, hs, hr, hb⟩
  · refine ⟨[], rfl, fun x hx => by simp at hx, ?_⟩
    cases a with
    | none => exact .inl ⟨rfl, rfl⟩
    | some x => exact .inr (.inl ⟨_, _, rfl, rfl⟩)
  · exact ⟨l, hl, Src.row hs (by omega) hr hl⟩
theorem wf_i64 {n : Int} (h : (Lit.int .i64 n).wf = true) : -9223372036854775808 ≤ n ∧ n ≤ 9223372036854775807 := by
  simp [Lit.wf, IntKind.min, IntKind.max, IntKind.bits, IntKind.signed] at h
  omega
section
variable {H : Type} {enc : TypeId × Value → H} {P : Program} {w : World} {base : Nat} {held : Bool}
/-- A slice of structs of three cells each: the cells of each element, and what each field reads as. -/
theorem open_triples {t e : TypeId} {f0 f1 f2 : Field} {fuel : Nat} {a : Option Addr} {len cap : Nat} {x : DataW H × List MemPlace} (ht : P.underlying t = some (.slice e)) (he : P.underlying e = some (.struct #[f0, f1, f2]))
    (ce : P.cellsOf e = 3) (o0 : f0.offset = 0) (o1 : f1.offset = 1) (o2 : f2.offset = 2) (c0 : P.cellsOf f0.type = 1) (c1 : P.cellsOf f1.type = 1) (c2 : P.cellsOf f2.type = 1)
    (h : DataW.trod enc P w base (fun _ => true) held fuel t (Value.slice a len cap).cells.toList = some x) :
    len ≤ 9223372036854775807 ∧ ∀ i, i < len → ∃ (ad : Addr) (n : Nat) (v0 v1 v2 : Value) (y0 y1 y2 : DataW H × List MemPlace), a = some ad ∧ w.cell? (ad.add (i * 3)) = some v0 ∧ w.cell? (ad.add (i * 3 + 1)) = some v1 ∧ w.cell? (ad.add (i * 3 + 2)) = some v2 ∧
      DataW.trod enc P w base (fun _ => true) held n f0.type [v0] = some y0 ∧ DataW.trod enc P w base (fun _ => true) held n f1.type [v1] = some y1 ∧ DataW.trod enc P w base (fun _ => true) held n f2.type [v2] = some y2 := by
  rcases Go.Deep.open_slice ht h with ⟨hcs, _⟩ | ⟨ad, l, c, m, n, D, Pl, hcs, hb, hl, hm, hmm, _, hx⟩
  · simp [Value.cells] at hcs
    obtain ⟨rfl, rfl, rfl⟩ := hcs
    exact ⟨by omega, fun i hi => by omega⟩
  · simp [Value.cells] at hcs
    obtain ⟨rfl, rfl, rfl⟩ := hcs
    refine ⟨by unfold maxLen at hm; omega, fun i hi => ?_⟩
    obtain ⟨cs', h1, h2⟩ := hx i (by simp at hmm; omega)
    rw [ce] at h1
    obtain ⟨_, hlen, hcell⟩ := World.cells?_some h1
    obtain ⟨xs, k, hk, hxy, _, hxl, hf⟩ := DataW.trod_struct he h2
    match xs, hxl, cs', hlen with
    | [y0, y1, y2], _, [v0, v1, v2], _ =>
      have g0 := hf 0 f0 rfl
      have g1 := hf 1 f1 rfl
      have g2 := hf 2 f2 rfl
      simp [o0, o1, o2, c0, c1, c2] at g0 g1 g2
      have e0 := hcell 0 (by omega)
      have e1 := hcell 1 (by omega)
      have e2 := hcell 2 (by omega)
      rw [Go.Deep.add_add] at e0 e1 e2
      exact ⟨ad, _, v0, v1, v2, y0, y1, y2, rfl, by simpa using e0, by simpa using e1, by simpa using e2, g0, g1, g2⟩
end
/-- The parts behind a slice. -/
def PartRow (w : World) (q : Option Addr) (ps : List Pt) : Prop :=
  ∀ j (h : j < ps.length), ∃ b o sv, q = some ⟨b, o, none⟩ ∧ b < w.heap.size ∧ w.cell? ⟨b, o + j * 3, none⟩ = some (.bool ps[j].isText) ∧ w.cell? ⟨b, o + j * 3 + 1, none⟩ = some (.int .i64 ps[j].n) ∧ w.cell? ⟨b, o + j * 3 + 2, none⟩ = some sv ∧ Old w.heap.size w sv ps[j].text ∧ ps[j].text.length ≤ 9223372036854775807
/-- The asks behind a slice. -/
structure Ak where
  isText : Bool
  least : Int
  most : Int
def AskRow (w : World) (q : Option Addr) (ks : List Ak) : Prop :=
  ∀ j (h : j < ks.length), ∃ b o, q = some ⟨b, o, none⟩ ∧ b < w.heap.size ∧ w.cell? ⟨b, o + j * 3, none⟩ = some (.bool ks[j].isText) ∧ w.cell? ⟨b, o + j * 3 + 1, none⟩ = some (.int .i64 ks[j].least) ∧ w.cell? ⟨b, o + j * 3 + 2, none⟩ = some (.int .i64 ks[j].most)
section
variable {H : Type} {enc : TypeId × Value → H} {P : Program} {w : World} {base : Nat} {held : Bool}
theorem add_nought (ad : Addr) : ad.add 0 = ad := by obtain ⟨b, o, s⟩ := ad; unfold Addr.add; split <;> simp_all
theorem spot_of {ad : Addr} {v : Value} (h : w.cell? ad = some v) : ad.spot = none := by
  cases hs : ad.spot with
  | none => rfl
  | some q =>
    unfold World.cell? at h
    split at h
    · simp [hs] at h
    · cases h
theorem rowIs_trod {t e : TypeId} {fuel : Nat} {v : Value} {x : DataW H × List MemPlace} (ht : P.underlying t = some (.slice e)) (he : P.underlying e = some (.int .u8)) (hc : P.cellsOf e = 1)
    (h : DataW.trod enc P w base (fun _ => true) held fuel t [v] = some x) : ∃ a len cap, v = .slice a len cap ∧ RowIs w a len cap := by
  rcases open_ints ht he hc h with ⟨hcs, _⟩ | ⟨x, l, c, zs, hcs, _, hl, hm, hz, _, hcell, hwz⟩
  · simp only [List.cons.injEq, and_true] at hcs
    exact ⟨none, 0, 0, hcs, rowIs_nil _ _⟩
  · simp only [List.cons.injEq, and_true] at hcs
    exact ⟨some x, l, c, hcs, rowIs_of hl hm (by simpa using hz) hcell hwz⟩
theorem partRow_of {t e e5 : TypeId} {f0 f1 f2 : Field} {fuel : Nat} {a : Option Addr} {len cap : Nat} {x : DataW H × List MemPlace} (ht : P.underlying t = some (.slice e)) (he : P.underlying e = some (.struct #[f0, f1, f2]))
    (ce : P.cellsOf e = 3) (o0 : f0.offset = 0) (o1 : f1.offset = 1) (o2 : f2.offset = 2) (c0 : P.cellsOf f0.type = 1) (c1 : P.cellsOf f1.type = 1) (c2 : P.cellsOf f2.type = 1)
    (t0 : P.underlying f0.type = some .bool) (t1 : P.underlying f1.type = some (.int .i64)) (t2 : P.underlying f2.type = some (.slice e5)) (t3 : P.underlying e5 = some (.int .u8)) (c5 : P.cellsOf e5 = 1)
    (h : DataW.trod enc P w base (fun _ => true) held fuel t (Value.slice a len cap).cells.toList = some x) :
    len ≤ 9223372036854775807 ∧ ∃ ps : List Pt, ps.length = len ∧ PartRow w a ps := by
  obtain ⟨hlen, hx⟩ := open_triples ht he ce o0 o1 o2 c0 c1 c2 h
  refine ⟨hlen, ?_⟩
  have each : ∀ i, i < len → ∃ q : Bool × Int × List Nat, ∃ b o sv, a = some ⟨b, o, none⟩ ∧ b < w.heap.size ∧ w.cell? ⟨b, o + i * 3, none⟩ = some (.bool q.1) ∧ w.cell? ⟨b, o + i * 3 + 1, none⟩ = some (.int .i64 q.2.1) ∧ w.cell? ⟨b, o + i * 3 + 2, none⟩ = some sv ∧ Old w.heap.size w sv q.2.2 ∧ q.2.2.length ≤ 9223372036854775807 := by
    intro i hi
    obtain ⟨ad0, _, z0, _, _, _, _, _, ea0, hz0, _⟩ := hx 0 (by omega)
    rw [Nat.zero_mul, add_nought] at hz0
    have hsp := spot_of hz0
    obtain ⟨ad, n, v0, v1, v2, y0, y1, y2, ea, k0, k1, k2, g0, g1, g2⟩ := hx i hi
    rw [ea0] at ea
    obtain rfl := Option.some.inj ea
    obtain ⟨b, o, s⟩ := ad0
    simp only at hsp
    subst hsp
    obtain ⟨b0, e0, _⟩ := DataW.trod_bool t0 g0
    obtain ⟨n1, e1, _, _⟩ := DataW.trod_int t1 g1
    obtain ⟨p, ln, cp, e2, hr⟩ := rowIs_trod t2 t3 c5 g2
    obtain ⟨l, hl, hs⟩ := Src.of hr
    simp only [List.cons.injEq, and_true] at e0 e1
    subst e0 e1 e2
    rw [Addr.add_mid] at k0 k1 k2
    exact ⟨(b0, n1, l), b, o, _, ea0, World.block_lt_of_cell? w _ hz0, k0, by rw [Nat.add_assoc]; exact k1, by rw [Nat.add_assoc]; exact k2, Old.of hs, by have := hr.max; simp only; omega⟩
  obtain ⟨f, hf⟩ := Go.Deep.choose_lt each
  refine ⟨(List.range len).map (fun i => ⟨(f i).1, (f i).2.1, (f i).2.2⟩), by simp, fun j hj => ?_⟩
  have hj' : j < len := by simpa using hj
  obtain ⟨b, o, sv, h1, h2, h3, h4, h5, h6, h7⟩ := hf j hj'
  exact ⟨b, o, sv, h1, h2, by simpa using h3, by simpa using h4, h5, by simpa using h6, by simpa using h7⟩
theorem askRow_of {t e : TypeId} {f0 f1 f2 : Field} {fuel : Nat} {a : Option Addr} {len cap : Nat} {x : DataW H × List MemPlace} (ht : P.underlying t = some (.slice e)) (he : P.underlying e = some (.struct #[f0, f1, f2]))
    (ce : P.cellsOf e = 3) (o0 : f0.offset = 0) (o1 : f1.offset = 1) (o2 : f2.offset = 2) (c0 : P.cellsOf f0.type = 1) (c1 : P.cellsOf f1.type = 1) (c2 : P.cellsOf f2.type = 1)
    (t0 : P.underlying f0.type = some .bool) (t1 : P.underlying f1.type = some (.int .i64)) (t2 : P.underlying f2.type = some (.int .i64))
    (h : DataW.trod enc P w base (fun _ => true) held fuel t (Value.slice a len cap).cells.toList = some x) :
    len ≤ 9223372036854775807 ∧ ∃ ks : List Ak, ks.length = len ∧ AskRow w a ks := by
  obtain ⟨hlen, hx⟩ := open_triples ht he ce o0 o1 o2 c0 c1 c2 h
  refine ⟨hlen, ?_⟩
  have each : ∀ i, i < len → ∃ q : Bool × Int × Int, ∃ b o, a = some ⟨b, o, none⟩ ∧ b < w.heap.size ∧ w.cell? ⟨b, o + i * 3, none⟩ = some (.bool q.1) ∧ w.cell? ⟨b, o + i * 3 + 1, none⟩ = some (.int .i64 q.2.1) ∧ w.cell? ⟨b, o + i * 3 + 2, none⟩ = some (.int .i64 q.2.2) := by
    intro i hi
    obtain ⟨ad0, _, z0, _, _, _, _, _, ea0, hz0, _⟩ := hx 0 (by omega)
    rw [Nat.zero_mul, add_nought] at hz0
    have hsp := spot_of hz0
    obtain ⟨ad, n, v0, v1, v2, y0, y1, y2, ea, k0, k1, k2, g0, g1, g2⟩ := hx i hi
    rw [ea0] at ea
    obtain rfl := Option.some.inj ea
    obtain ⟨b, o, s⟩ := ad0
    simp only at hsp
    subst hsp
    obtain ⟨b0, e0, _⟩ := DataW.trod_bool t0 g0
    obtain ⟨n1, e1, _, _⟩ := DataW.trod_int t1 g1
    obtain ⟨n2, e2, _, _⟩ := DataW.trod_int t2 g2
    simp only [List.cons.injEq, and_true] at e0 e1 e2
    subst e0 e1 e2
    rw [Addr.add_mid] at k0 k1 k2
    exact ⟨(b0, n1, n2), b, o, ea0, World.block_lt_of_cell? w _ hz0, k0, by rw [Nat.add_assoc]; exact k1, by rw [Nat.add_assoc]; exact k2⟩
  obtain ⟨f, hf⟩ := Go.Deep.choose_lt each
  refine ⟨(List.range len).map (fun i => ⟨(f i).1, (f i).2.1, (f i).2.2⟩), by simp, fun j hj => ?_⟩
  have hj' : j < len := by simpa using hj
  obtain ⟨b, o, h1, h2, h3, h4, h5⟩ := hf j hj'
  exact ⟨b, o, h1, h2, by simpa using h3, by simpa using h4, by simpa using h5⟩
end
end Go.Proofs.Ytigfiopmochliaa.C8
/- A region that draws its order and holds calls that change a thing: beside what each operation leaves behind, what the thing is, by which operations have been. -/
namespace Go.Proofs.Ytigfiopmochliaa
open Go.RowKit
section
variable {P : Program} {ops : Array Oper} {Q : Exit → Act → World → Prop}
theorem wp_region_st {id : Nat} {a : Act} {w : World} (V : Nat → Value → World → Prop) (G : World → World → Prop) (S : (Nat → Bool) → World → Prop) (hm : P.follows .mixedOrders = true)
    (hG0 : G w { w with drawn := w.drawn + 1 }) (hGt : ∀ x y z, G x y → G y z → G x z) (hV : ∀ i v x y, V i v x → G x y → V i v y)
    (hok : regionOk ops a.tmps.size = true) (hS0 : S (fun _ => false) { w with drawn := w.drawn + 1 })
    (hstep : ∀ i o a' w' f, ops[i]? = some o → RInv ops V G a w a' w' → S f w' → f i = false → (∀ e ∈ o.after, Region.binds .any e = true → f e.on = true) →
      (∀ e ∈ o.after, Region.binds .any e = true → ∀ d, (ops[e.on]?).bind (·.dst) = some d → V e.on (a'.tmps.getD d undef) w') →
      wpOp P ops Q i (fun a'' w'' => G w' w'' ∧ S (fun j => if j = i then true else f j) w'' ∧ ∃ v, a'' = a'.put o.dst v ∧ V i v w'') a' w')
    (hend : ∀ a' w' f, RInv ops V G a w a' w' → S f w' → (∀ i, i < ops.size → f i = true) → (∀ i d, (ops[i]?).bind (·.dst) = some d → V i (a'.tmps.getD d undef) w') → Q .normal a' w') : (Code.region id ops true).wp P Q a w := by
  refine wp_region_any hm ?_
  have key : ∀ (fuel : Nat) (listed : Array Bool) (a' : Act) (w' : World), listed.size = ops.size → listed.toList.count false ≤ fuel → RInv ops V G a w a' w' → S (fun j => listed.getD j false) w' →
      (∀ i d, listed.getD i false = true → (ops[i]?).bind (·.dst) = some d → V i (a'.tmps.getD d undef) w') → wpAny P .any ops Q fuel listed a' w' := by
    intro fuel
    induction fuel with
    | zero =>
      intro listed a' w' hs hc inv hst hd
      have hnone : ∀ i, i < ops.size → listed.getD i false = true := fun i hi => by
        have h0 : false ∉ listed.toList := List.count_eq_zero.1 (Nat.le_zero.1 hc)
        have hi' : i < listed.size := by omega
        cases hb : listed[i] with
        | true => simp [hi', hb]
        | false => exact absurd (Array.getElem_mem_toList hi') (by rw [hb]; exact h0)
      refine ⟨?_, hend a' w' _ inv hst hnone (fun i d hid => hd i d (hnone i ?_) hid)⟩
      · apply List.eq_nil_iff_forall_not_mem.2
        intro j hj
        obtain ⟨h1, o, ho, _⟩ := mem_ready.1 hj
        have := hnone j (Array.getElem?_eq_some_iff.1 ho).1
        have hj' : j < listed.size := by have := (Array.getElem?_eq_some_iff.1 ho).1; omega
        simp [hj'] at h1 this
        rw [h1] at this
        cases this
      · cases ho : ops[i]? with
        | none => simp [ho] at hid
        | some o => exact (Array.getElem?_eq_some_iff.1 ho).1
    | succ fuel ih =>
      intro listed a' w' hs hc inv hst hd
      refine ⟨fun hnil => ?_, fun i hi => ?_⟩
      · have hall : ∀ n i, i < n → i < ops.size → listed.getD i false = true := by
          intro n
          induction n with
          | zero => intro i hi; omega
          | succ n ihn =>
            intro i hi hlt
            have hil : i < listed.size := by omega
            cases hb : listed[i] with
            | true => simp [hil, hb]
            | false =>
              exfalso
              obtain ⟨o, ho⟩ : ∃ o, ops[i]? = some o := ⟨_, Array.getElem?_eq_getElem hlt⟩
              have : i ∈ Region.ready .any ops listed := mem_ready.2 ⟨by simp [hil, hb], o, ho, fun e he hbd => by
                have h3 := (regionOk_spec hok ho).1 e he hbd
                exact ihn e.on (by omega) (by omega)⟩
              rw [hnil] at this
              cases this
        refine hend a' w' _ inv hst (fun i hi => hall (i + 1) i (by omega) hi) (fun i d hid => hd i d (hall (i + 1) i (by omega) ?_) hid)
        cases ho : ops[i]? with
        | none => simp [ho] at hid
        | some o => exact (Array.getElem?_eq_some_iff.1 ho).1
      · obtain ⟨hun, o, ho, hall⟩ := mem_ready.1 hi
        have hlt : i < ops.size := (Array.getElem?_eq_some_iff.1 ho).1
        have hil : i < listed.size := by omega
        refine wpOp_mono (fun a'' w'' hk => ?_) (hstep i o a' w' _ ho inv hst (by simpa [hil] using hun) (fun e he hb => hall e he hb) (fun e he hb d hed => hd e.on d (hall e he hb) hed))
        obtain ⟨hg, hst', v, rfl, hv⟩ := hk
        refine ih _ _ _ (by simpa using hs) ?_ ⟨by rw [size_put]; exact inv.size, by rw [defers_put]; exact inv.defers, hGt _ _ _ inv.grow hg, fun t ht => ?_⟩ ?_ (fun j d hj hjd => ?_)
        · have hf : listed.toList[i]? = some false := by
            simp [hil] at hun ⊢
            exact hun
          rw [Array.toList_setIfInBounds]
          have hcnt := List.count_set (l := listed.toList) (i := i) (a := true) (b := false) (by simpa using hil)
          have hget : listed.toList[i]'(by simpa using hil) = false := (List.getElem?_eq_some_iff.1 hf).2
          rw [hcnt, hget, if_pos (by rfl), if_neg (by decide)]
          omega
        · rw [getD_put _ _ _ _ (fun e => ht i (by rw [ho]; exact e))]
          exact inv.old t ht
        · have hfe : (fun j => (listed.setIfInBounds i true).getD j false) = fun j => if j = i then true else listed.getD j false := by
            funext j
            by_cases hji : j = i
            · subst hji
              simp [hil]
            · rw [getD_set_ne false (Ne.symm hji), if_neg hji]
          rw [hfe]
          exact hst'
        · by_cases hji : j = i
          · subst hji
            have hod : o.dst = some d := by simpa [ho] using hjd
            rw [hod, getD_put_same _ _ _ (by rw [inv.size]; exact ((regionOk_spec hok ho).2 d hod).1)]
            exact hv
          · rw [getD_put _ _ _ _ (fun e => ((regionOk_spec hok ho).2 d e).2 j hji hjd)]
            rw [getD_set_ne false (Ne.symm hji)] at hj
            exact hV _ _ _ _ (hd j d hj hjd) hg
  refine key ops.size _ a _ (by simp) ?_ ⟨rfl, rfl, hG0, fun _ _ => rfl⟩ ?_ (fun i d hi _ => by rw [replicate_false] at hi; cases hi)
  · exact Nat.le_trans List.count_le_length (by simp)
  · have hfe : (fun j => (Array.replicate ops.size false).getD j false) = fun _ => false := funext (replicate_false ops.size)
    rw [hfe]
    exact hS0
end
end Go.Proofs.Ytigfiopmochliaa
/- Steps of regions that draw their order and hold calls, one after the other. -/
namespace Go.Proofs.Ytigfiopmochliaa.C8
open Go.RowKit
/-- Of calls that come one after the other, so many have been. -/
def SeqS (cs : List Nat) (R : Nat → World → Prop) (f : Nat → Bool) (w : World) : Prop := ∃ k, k ≤ cs.length ∧ (∀ j c, cs[j]? = some c → (f c = true ↔ j < k)) ∧ R k w
section
variable {cs : List Nat} {R : Nat → World → Prop} {f : Nat → Bool} {w w' : World}
theorem SeqS.start (h : R 0 w) : SeqS cs R (fun _ => false) w := ⟨0, Nat.zero_le _, fun j c _ => by simp, h⟩
theorem SeqS.quiet (h : SeqS cs R f w) {i : Nat} (hi : i ∉ cs) (hR : ∀ k, R k w → R k w') : SeqS cs R (fun j => if j = i then true else f j) w' := by
  obtain ⟨k, h1, h2, h3⟩ := h
  refine ⟨k, h1, fun j c hc => ?_, hR k h3⟩
  have : c ≠ i := fun e => hi (e ▸ List.mem_of_getElem? hc)
  show (if c = i then true else f c) = true ↔ _
  rw [if_neg this]
  exact h2 j c hc
theorem SeqS.at {i k : Nat} (h : SeqS cs R f w) (hk : cs[k]? = some i) (hf : f i = false) (hp : ∀ c, k ≠ 0 → cs[k - 1]? = some c → f c = true) :
    R k w ∧ ∀ j c, cs[j]? = some c → (f c = true ↔ j < k) := by
  obtain ⟨k', h1, h2, h3⟩ := h
  have e1 : ¬ k < k' := fun e => by have := (h2 k i hk).2 e; rw [hf] at this; cases this
  have e2 : k' = k := by
    by_cases h0 : k = 0
    · omega
    · have hlt : k - 1 < cs.length := by have := (List.getElem?_eq_some_iff.1 hk).1; omega
      have := (h2 (k - 1) _ (List.getElem?_eq_getElem hlt)).1 (hp _ h0 (List.getElem?_eq_getElem hlt))
      omega
  subst e2
  exact ⟨h3, h2⟩
theorem SeqS.next {i k : Nat} (hk : cs[k]? = some i) (hnd : cs.Nodup) (h2 : ∀ j c, cs[j]? = some c → (f c = true ↔ j < k)) (hR : R (k + 1) w') : SeqS cs R (fun j => if j = i then true else f j) w' := by
  have hlt := (List.getElem?_eq_some_iff.1 hk).1
  refine ⟨k + 1, hlt, fun j c hc => ?_, hR⟩
  by_cases hji : c = i
  · subst hji
    show (if c = c then true else f c) = true ↔ _
    rw [if_pos rfl]
    have : j = k := by
      have hj := (List.getElem?_eq_some_iff.1 hc).1
      have h3 := (List.getElem?_eq_some_iff.1 hc).2
      have h4 := (List.getElem?_eq_some_iff.1 hk).2
      exact (List.getElem_inj hnd).1 (h3.trans h4.symm)
    subst this
    simp
  · show (if c = i then true else f c) = true ↔ _
    rw [if_neg hji, h2 j c hc]
    have : j ≠ k := fun e => by subst e; rw [hk] at hc; exact hji (Option.some.inj hc).symm
    omega
theorem SeqS.done (h : SeqS cs R f w) (ha : ∀ c ∈ cs, f c = true) : R cs.length w := by
  obtain ⟨k, h1, h2, h3⟩ := h
  have : k = cs.length := by
    by_cases hk : k = cs.length
    · exact hk
    · have hlt : k < cs.length := by omega
      have := (h2 k _ (List.getElem?_eq_getElem hlt)).1 (ha _ (List.getElem_mem hlt))
      omega
  rw [← this]
  exact h3
end
section
variable {P : Program} {ops : Array Oper} {Q : Exit → Act → World → Prop} {V : Nat → Value → World → Prop} {bs cs : List Nat} {R : Nat → World → Prop} {f : Nat → Bool}
theorem sq_value {i : Nat} {o : Oper} {a' : Act} {w' w'' : World} (v : Value) (hi : ops[i]? = some o) (hw : Region.wanted o (yielded ops a'.tmps) = true)
    (hr : (execOp a'.eval o).run P w' = .ok (.value v) w'') (hb : Below w'.heap.size w' w'') (hn : i ∉ cs) (hS : SeqS cs R f w') (hR : ∀ k w w', Below w.heap.size w w' → R k w → R k w') (hv : V i v w'') :
    wpOp P ops Q i (fun a'' w2 => Only bs w' w2 ∧ SeqS cs R (fun j => if j = i then true else f j) w2 ∧ ∃ v, a'' = a'.put o.dst v ∧ V i v w2) a' w' :=
  wpOp_value v hi hw hr ⟨Only.of_below hb _, hS.quiet hn (fun k => hR k w' w'' hb), v, rfl, hv⟩
theorem sq_call {i k : Nat} {o : Oper} {a' : Act} {w' : World} (fn : FuncId) (args : Array Value) (hi : ops[i]? = some o) (hw : Region.wanted o (yielded ops a'.tmps) = true)
    (hr : (execOp a'.eval o).run P w' = .ok (.enter fn args) w') (hk : cs[k]? = some i) (hnd : cs.Nodup) (hf : f i = false) (hp : ∀ c, k ≠ 0 → cs[k - 1]? = some c → f c = true) (hS : SeqS cs R f w')
    (h : R k w' → Calls P fn args w' fun e w2 => ∃ v, e = .returned v ∧ Only bs w' w2 ∧ R (k + 1) w2 ∧ V i v w2) :
    wpOp P ops Q i (fun a'' w2 => Only bs w' w2 ∧ SeqS cs R (fun j => if j = i then true else f j) w2 ∧ ∃ v, a'' = a'.put o.dst v ∧ V i v w2) a' w' := by
  obtain ⟨h1, h2⟩ := hS.at hk hf hp
  exact wpOp_call fn args hi hw hr ((h h1).mono fun _ _ ⟨v, he, hg, hR, hv⟩ => ⟨v, he, hg, SeqS.next hk hnd h2 hR, v, rfl, hv⟩)
def notDst (ops : Array Oper) (t : Tmp) : Bool := (List.range ops.size).all fun i => !((ops[i]?).bind (·.dst) == some t)
theorem notDst_spec {t : Tmp} (h : notDst ops t = true) (i : Nat) : (ops[i]?).bind (·.dst) ≠ some t := fun e => by
  have hlt : i < ops.size := by
    cases ho : ops[i]? with
    | none => simp [ho] at e
    | some oj => exact (Array.getElem?_eq_some_iff.1 ho).1
  have := List.all_eq_true.1 h i (List.mem_range.2 hlt)
  simp [e] at this
/-- No operation writes any slot outside a list. -/
def dstsIn (ops : Array Oper) (ts : List Nat) : Bool := (List.range ops.size).all fun i => match (ops[i]?).bind (·.dst) with
  | none => true
  | some d => ts.contains d
theorem dstsIn_spec {ts : List Nat} (h : dstsIn ops ts = true) (t : Tmp) (ht : ts.contains t = false) (i : Nat) : (ops[i]?).bind (·.dst) ≠ some t := fun e => by
  have hlt : i < ops.size := by
    cases ho : ops[i]? with
    | none => simp [ho] at e
    | some oj => exact (Array.getElem?_eq_some_iff.1 ho).1
  have := List.all_eq_true.1 h i (List.mem_range.2 hlt)
  rw [e] at this
  simp only at this
  rw [ht] at this
  cases this
def waitsFor (o : Oper) (j : Nat) : Bool := o.after.any fun e => Region.binds .any e && e.on == j
theorem pre_of {o : Oper} {a' : Act} {w' : World} (hpre : ∀ e ∈ o.after, Region.binds .any e = true → ∀ d, (ops[e.on]?).bind (·.dst) = some d → V e.on (a'.tmps.getD d undef) w') (j : Nat) (d : Tmp)
    (h : waitsFor o j = true) (hd : (ops[j]?).bind (·.dst) = some d) : V j (a'.tmps.getD d undef) w' := by
  obtain ⟨e, he, hb⟩ := Array.any_eq_true'.1 h
  simp only [Bool.and_eq_true, beq_iff_eq] at hb
  obtain ⟨h1, rfl⟩ := hb
  exact hpre e he h1 d hd
theorem been_of {o : Oper} (hf : ∀ e ∈ o.after, Region.binds .any e = true → f e.on = true) (j : Nat) (h : waitsFor o j = true) : f j = true := by
  obtain ⟨e, he, hb⟩ := Array.any_eq_true'.1 h
  simp only [Bool.and_eq_true, beq_iff_eq] at hb
  obtain ⟨h1, rfl⟩ := hb
  exact hf e he h1
theorem wanted_of {o : Oper} {a' : Act} (j : Nat) (d : Tmp) (b : Bool) (hg : o.guard = some (j, b)) (hd : (ops[j]?).bind (·.dst) = some d) (hv : a'.tmps.getD d undef = .bool b) : Region.wanted o (yielded ops a'.tmps) = true := by
  have hsome : a'.tmps[d]? = some (.bool b) := by
    cases h : a'.tmps[d]? with
    | none => simp [h, undef] at hv
    | some x => simpa [h] using hv
  simp [Region.wanted, hg, yielded, hd, hsome]
end
def IsV (x : Value) (v : Value) (_ : World) : Prop := v = x
theorem only_trans (bs : List Nat) (x y z : World) (h : Only bs x y) (h' : Only bs y z) : Only bs x z := h.trans h'
theorem only_drew (bs : List Nat) (w : World) : Only bs w { w with drawn := w.drawn + 1 } := Only.drewN 1 w bs
/-- Bytes in a slot; they lie in none of these blocks. -/
def SrcV (bs : List Nat) (l : List Nat) (v : Value) (w : World) : Prop := Src w v l ∧ (l ≠ [] → Off v bs)
theorem SrcV.kept {bs l : List Nat} {v : Value} {w w' : World} (h : SrcV bs l v w) (ho : Only bs w w') : SrcV bs l v w' := by
  refine ⟨?_, h.2⟩
  by_cases h0 : l = []
  · subst h0
    exact h.1.empty w'
  · exact h.1.only ho (h.2 h0)
section
variable {P : Program} {ops : Array Oper} {Q : Exit → Act → World → Prop} {V : Nat → Value → World → Prop} {bs cs : List Nat} {R : Nat → World → Prop} {f : Nat → Bool}
/-- An operation whose guard says no. -/
theorem sq_skip {i : Nat} {o : Oper} {a' : Act} {w' : World} (hi : ops[i]? = some o) (hw : Region.wanted o (yielded ops a'.tmps) = false) (hn : i ∉ cs) (hS : SeqS cs R f w') (hv : V i undef w') :
    wpOp P ops Q i (fun a'' w2 => Only bs w' w2 ∧ SeqS cs R (fun j => if j = i then true else f j) w2 ∧ ∃ v, a'' = a'.put o.dst v ∧ V i v w2) a' w' := by
  unfold wpOp
  simp only [hi, hw]
  exact ⟨Only.refl _ _, hS.quiet hn (fun _ h => h), undef, rfl, hv⟩
/-- A call that turns nothing that is counted. -/
theorem sq_quiet {i : Nat} {o : Oper} {a' : Act} {w' : World} (fn : FuncId) (args : Array Value) (hi : ops[i]? = some o) (hw : Region.wanted o (yielded ops a'.tmps) = true)
    (hr : (execOp a'.eval o).run P w' = .ok (.enter fn args) w') (hn : i ∉ cs) (hS : SeqS cs R f w')
    (h : Calls P fn args w' fun e w2 => ∃ v, e = .returned v ∧ Only bs w' w2 ∧ (∀ k, R k w' → R k w2) ∧ V i v w2) :
    wpOp P ops Q i (fun a'' w2 => Only bs w' w2 ∧ SeqS cs R (fun j => if j = i then true else f j) w2 ∧ ∃ v, a'' = a'.put o.dst v ∧ V i v w2) a' w' :=
  wpOp_call fn args hi hw hr (h.mono fun _ _ ⟨v, he, hg, hR, hv⟩ => ⟨v, he, hg, hS.quiet hn hR, v, rfl, hv⟩)
theorem unwanted_of {o : Oper} {a' : Act} (j : Nat) (d : Tmp) (b : Bool) (hg : o.guard = some (j, !b)) (hd : (ops[j]?).bind (·.dst) = some d) (hv : a'.tmps.getD d undef = .bool b) : Region.wanted o (yielded ops a'.tmps) = false := by
  have hsome : a'.tmps[d]? = some (.bool b) := by
    cases h : a'.tmps[d]? with
    | none => simp [h, undef] at hv
    | some x => simpa [h] using hv
  cases b <;> simp [Region.wanted, hg, yielded, hd, hsome]
end
section
variable {o : Oper} {a' : Act} {w' : World}
theorem not_run (t : Tmp) (b : Bool) (ho : o.op = .unOp .not 4 (.tmp t)) (h0 : a'.tmps.getD t undef = .bool b) : (execOp a'.eval o).run Try.prog w' = .ok (.value (.bool (!b))) w' := by
  have he : a'.eval (.tmp t) = .bool b := h0
  unfold execOp
  simp only [ho]
  rw [he]
  simp [go_sem]
theorem pick_run (s : Tmp) (b : Bool) (x y : Operand) (u v : Value) (ho : o.op = .pick (.tmp s) x y) (h0 : a'.tmps.getD s undef = .bool b) (h1 : a'.eval x = u) (h2 : a'.eval y = v) : (execOp a'.eval o).run Try.prog w' = .ok (.value (if b then u else v)) w' := by
  have he : a'.eval (.tmp s) = .bool b := h0
  unfold execOp
  simp only [ho]
  rw [he, h1, h2]
  cases b <;> simp [go_sem]
theorem neqS_run (s t : Tmp) (x y : ByteArray) (ho : o.op = .binOp .neq 9 (.tmp s) (.tmp t) 9) (h0 : a'.tmps.getD s undef = .string x) (h1 : a'.tmps.getD t undef = .string y) : (execOp a'.eval o).run Try.prog w' = .ok (.value (.bool (!(x.toList == y.toList)))) w' := by
  have he : a'.eval (.tmp s) = .string x := h0
  have hc : a'.eval (.tmp t) = .string y := h1
  unfold execOp
  simp only [ho]
  rw [he, hc]
  simp [go_sem]
theorem neqN_run (s t : Tmp) (x y : Int) (ho : o.op = .binOp .neq 3 (.tmp s) (.tmp t) 3) (h0 : a'.tmps.getD s undef = .int .i64 x) (h1 : a'.tmps.getD t undef = .int .i64 y) : (execOp a'.eval o).run Try.prog w' = .ok (.value (.bool (!(x == y)))) w' := by
  have he : a'.eval (.tmp s) = .int .i64 x := h0
  have hc : a'.eval (.tmp t) = .int .i64 y := h1
  unfold execOp
  simp only [ho]
  rw [he, hc]
  simp [go_sem]
  rfl
theorem neqB_run (s t : Tmp) (x y : Bool) (ho : o.op = .binOp .neq 4 (.tmp s) (.tmp t) 4) (h0 : a'.tmps.getD s undef = .bool x) (h1 : a'.tmps.getD t undef = .bool y) : (execOp a'.eval o).run Try.prog w' = .ok (.value (.bool (!(x == y)))) w' := by
  have he : a'.eval (.tmp s) = .bool x := h0
  have hc : a'.eval (.tmp t) = .bool y := h1
  unfold execOp
  simp only [ho]
  rw [he, hc]
  simp [go_sem]
theorem conv_run {l : List Nat} (t : Tmp) (ho : o.op = .convert 23 9 (.tmp t)) (h : Src w' (a'.tmps.getD t undef) l) : (execOp a'.eval o).run Try.prog w' = .ok (.value (.string (strB l))) w' := by
  have hc := conv_src h
  unfold execOp
  simp only [ho, Act.eval, Sem.run_bind, hc, Result.andThen_ok, Sem.run_pure]
theorem fa_run (T : TypeId) (k : Nat) (t : Tmp) (b : Nat) (ho : o.op = .fieldAddr T (.tmp t) k) (h0 : a'.tmps.getD t undef = .pointer (some ⟨b, 0, none⟩)) (hf : ∀ w : World, (Instr.fieldAt T (.pointer (some ⟨b, 0, none⟩)) k).run Try.prog w = .ok (.pointer (some ⟨b, k, none⟩)) w) :
    (execOp a'.eval o).run Try.prog w' = .ok (.value (.pointer (some ⟨b, k, none⟩))) w' := by
  have he : a'.eval (.tmp t) = .pointer (some ⟨b, 0, none⟩) := h0
  unfold execOp
  simp only [ho]
  rw [he]
  simp [hf, Result.andThen]
theorem load_run (T : TypeId) (t : Tmp) (b k : Nat) (v : Value) (ho : o.op = .load T (.tmp t)) (h0 : a'.tmps.getD t undef = .pointer (some ⟨b, k, none⟩)) (hf : (Instr.loadAt T (.pointer (some ⟨b, k, none⟩))).run Try.prog w' = .ok v w') :
    (execOp a'.eval o).run Try.prog w' = .ok (.value v) w' := by
  have he : a'.eval (.tmp t) = .pointer (some ⟨b, k, none⟩) := h0
  unfold execOp
  simp only [ho]
  rw [he]
  simp [hf, Result.andThen]
end
theorem ld4 {b k : Nat} {x : Bool} {w : World} (h : w.cell? ⟨b, k, none⟩ = some (.bool x)) : (Instr.loadAt 4 (.pointer (some ⟨b, k, none⟩))).run Try.prog w = .ok (.bool x) w := by simp [go_sem, h]
theorem ld3 {b k : Nat} {x : Int} {w : World} (h : w.cell? ⟨b, k, none⟩ = some (.int .i64 x)) : (Instr.loadAt 3 (.pointer (some ⟨b, k, none⟩))).run Try.prog w = .ok (.int .i64 x) w := by simp [go_sem, h]
theorem ld22 {b k : Nat} {q : Option Addr} {n c : Nat} {w : World} (h : w.cell? ⟨b, k, none⟩ = some (.slice q n c)) : (Instr.loadAt 23 (.pointer (some ⟨b, k, none⟩))).run Try.prog w = .ok (.slice q n c) w := by simp [go_sem, h]
theorem nil_run {o : Oper} {a' : Act} {w' : World} (t : Tmp) (x : Addr) (ho : o.op = .nilCheck (.tmp t)) (h0 : a'.tmps.getD t undef = .pointer (some x)) : (execOp a'.eval o).run Try.prog w' = .ok (.value (.pointer (some x))) w' := by
  have he : a'.eval (.tmp t) = .pointer (some x) := h0
  unfold execOp
  simp only [ho]
  rw [he]
  simp [go_sem]
end Go.Proofs.Ytigfiopmochliaa.C8
/- As wp_region_st, where what is said of a thing may name what lies in slots. -/
namespace Go.Proofs.Ytigfiopmochliaa
open Go.RowKit
section
variable {P : Program} {ops : Array Oper} {Q : Exit → Act → World → Prop}
theorem wp_region_sa {id : Nat} {a : Act} {w : World} (V : Nat → Value → World → Prop) (G : World → World → Prop) (S : (Nat → Bool) → Act → World → Prop) (hm : P.follows .mixedOrders = true)
    (hG0 : G w { w with drawn := w.drawn + 1 }) (hGt : ∀ x y z, G x y → G y z → G x z) (hV : ∀ i v x y, V i v x → G x y → V i v y)
    (hok : regionOk ops a.tmps.size = true) (hS0 : S (fun _ => false) a { w with drawn := w.drawn + 1 })
    (hstep : ∀ i o a' w' f, ops[i]? = some o → RInv ops V G a w a' w' → S f a' w' → f i = false → (∀ e ∈ o.after, Region.binds .any e = true → f e.on = true) →
      (∀ e ∈ o.after, Region.binds .any e = true → ∀ d, (ops[e.on]?).bind (·.dst) = some d → V e.on (a'.tmps.getD d undef) w') →
      wpOp P ops Q i (fun a'' w'' => G w' w'' ∧ S (fun j => if j = i then true else f j) a'' w'' ∧ ∃ v, a'' = a'.put o.dst v ∧ V i v w'') a' w')
    (hend : ∀ a' w' f, RInv ops V G a w a' w' → S f a' w' → (∀ i, i < ops.size → f i = true) → (∀ i d, (ops[i]?).bind (·.dst) = some d → V i (a'.tmps.getD d undef) w') → Q .normal a' w') : (Code.region id ops true).wp P Q a w := by
  refine wp_region_any hm ?_
  have key : ∀ (fuel : Nat) (listed : Array Bool) (a' : Act) (w' : World), listed.size = ops.size → listed.toList.count false ≤ fuel → RInv ops V G a w a' w' → S (fun j => listed.getD j false) a' w' →
      (∀ i d, listed.getD i false = true → (ops[i]?).bind (·.dst) = some d → V i (a'.tmps.getD d undef) w') → wpAny P .any ops Q fuel listed a' w' := by
    intro fuel
    induction fuel with
    | zero =>
      intro listed a' w' hs hc inv hst hd
      have hnone : ∀ i, i < ops.size → listed.getD i false = true := fun i hi => by
        have h0 : false ∉ listed.toList := List.count_eq_zero.1 (Nat.le_zero.1 hc)
        have hi' : i < listed.size := by omega
        cases hb : listed[i] with
        | true => simp [hi', hb]
        | false => exact absurd (Array.getElem_mem_toList hi') (by rw [hb]; exact h0)
      refine ⟨?_, hend a' w' _ inv hst hnone (fun i d hid => hd i d (hnone i ?_) hid)⟩
      · apply List.eq_nil_iff_forall_not_mem.2
        intro j hj
        obtain ⟨h1, o, ho, _⟩ := mem_ready.1 hj
        have := hnone j (Array.getElem?_eq_some_iff.1 ho).1
        have hj' : j < listed.size := by have := (Array.getElem?_eq_some_iff.1 ho).1; omega
        simp [hj'] at h1 this
        rw [h1] at this
        cases this
      · cases ho : ops[i]? with
        | none => simp [ho] at hid
        | some o => exact (Array.getElem?_eq_some_iff.1 ho).1
    | succ fuel ih =>
      intro listed a' w' hs hc inv hst hd
      refine ⟨fun hnil => ?_, fun i hi => ?_⟩
      · have hall : ∀ n i, i < n → i < ops.size → listed.getD i false = true := by
          intro n
          induction n with
          | zero => intro i hi; omega
          | succ n ihn =>
            intro i hi hlt
            have hil : i < listed.size := by omega
            cases hb : listed[i] with
            | true => simp [hil, hb]
            | false =>
              exfalso
              obtain ⟨o, ho⟩ : ∃ o, ops[i]? = some o := ⟨_, Array.getElem?_eq_getElem hlt⟩
              have : i ∈ Region.ready .any ops listed := mem_ready.2 ⟨by simp [hil, hb], o, ho, fun e he hbd => by
                have h3 := (regionOk_spec hok ho).1 e he hbd
                exact ihn e.on (by omega) (by omega)⟩
              rw [hnil] at this
              cases this
        refine hend a' w' _ inv hst (fun i hi => hall (i + 1) i (by omega) hi) (fun i d hid => hd i d (hall (i + 1) i (by omega) ?_) hid)
        cases ho : ops[i]? with
        | none => simp [ho] at hid
        | some o => exact (Array.getElem?_eq_some_iff.1 ho).1
      · obtain ⟨hun, o, ho, hall⟩ := mem_ready.1 hi
        have hlt : i < ops.size := (Array.getElem?_eq_some_iff.1 ho).1
        have hil : i < listed.size := by omega
        refine wpOp_mono (fun a'' w'' hk => ?_) (hstep i o a' w' _ ho inv hst (by simpa [hil] using hun) (fun e he hb => hall e he hb) (fun e he hb d hed => hd e.on d (hall e he hb) hed))
        obtain ⟨hg, hst', v, rfl, hv⟩ := hk
        refine ih _ _ _ (by simpa using hs) ?_ ⟨by rw [size_put]; exact inv.size, by rw [defers_put]; exact inv.defers, hGt _ _ _ inv.grow hg, fun t ht => ?_⟩ ?_ (fun j d hj hjd => ?_)
        · have hf : listed.toList[i]? = some false := by
            simp [hil] at hun ⊢
            exact hun
          rw [Array.toList_setIfInBounds]
          have hcnt := List.count_set (l := listed.toList) (i := i) (a := true) (b := false) (by simpa using hil)
          have hget : listed.toList[i]'(by simpa using hil) = false := (List.getElem?_eq_some_iff.1 hf).2
          rw [hcnt, hget, if_pos (by rfl), if_neg (by decide)]
          omega
        · rw [getD_put _ _ _ _ (fun e => ht i (by rw [ho]; exact e))]
          exact inv.old t ht
        · have hfe : (fun j => (listed.setIfInBounds i true).getD j false) = fun j => if j = i then true else listed.getD j false := by
            funext j
            by_cases hji : j = i
            · subst hji
              simp [hil]
            · rw [getD_set_ne false (Ne.symm hji), if_neg hji]
          rw [hfe]
          exact hst'
        · by_cases hji : j = i
          · subst hji
            have hod : o.dst = some d := by simpa [ho] using hjd
            rw [hod, getD_put_same _ _ _ (by rw [inv.size]; exact ((regionOk_spec hok ho).2 d hod).1)]
            exact hv
          · rw [getD_put _ _ _ _ (fun e => ((regionOk_spec hok ho).2 d e).2 j hji hjd)]
            rw [getD_set_ne false (Ne.symm hji)] at hj
            exact hV _ _ _ _ (hd j d hj hjd) hg
  refine key ops.size _ a _ (by simp) ?_ ⟨rfl, rfl, hG0, fun _ _ => rfl⟩ ?_ (fun i d hi _ => by rw [replicate_false] at hi; cases hi)
  · exact Nat.le_trans List.count_le_length (by simp)
  · have hfe : (fun j => (Array.replicate ops.size false).getD j false) = fun _ => false := funext (replicate_false ops.size)
    rw [hfe]
    exact hS0
end
end Go.Proofs.Ytigfiopmochliaa
